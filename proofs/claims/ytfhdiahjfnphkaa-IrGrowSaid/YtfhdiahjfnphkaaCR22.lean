/- A call, by the reference. Condition: the variables are there. -/
import Derived.Test.YtfhdiahjfnphkaaCR21
namespace Go.Proofs.Ytfhdiahjfnphkaa
open Go.RowKit Go.Maps
set_option linter.unusedVariables false
set_option linter.unusedSimpArgs false
theorem argsEq_no (x : CoD) : ∀ {xs : List Int} {vs : List VaD} {k : Nat} {a : Int} {v : VaD}, xs[k]? = some a → vs[k]? = some v → tyEq (tyOf x a) v.t = false → argsEq x xs vs = false
  | [], _, _, _, _, h, _, _ => by simp at h
  | _ :: _, [], _, _, _, _, h, _ => by simp at h
  | a :: l, u :: us, 0, _, _, h1, h2, h3 => by
    simp at h1 h2
    subst h1; subst h2
    simp [argsEq, h3]
  | a :: l, u :: us, k + 1, _, _, h1, h2, h3 => by
    simp at h1 h2
    simp [argsEq, argsEq_no x h1 h2 h3]
theorem argsEq_yes (x : CoD) : ∀ {xs : List Int} {vs : List VaD}, xs.length ≤ vs.length → (∀ (i : Nat) a v, i < xs.length → xs[i]? = some a → vs[i]? = some v → tyEq (tyOf x a) v.t = true) → argsEq x xs vs = true
  | [], _, _, _ => by simp [argsEq]
  | _ :: _, [], h, _ => by simp at h
  | a :: l, u :: us, h, hh => by
    rw [argsEq, hh 0 a u (by simp) rfl rfl, argsEq_yes x (by simpa using h) (fun i a v h1 h2 h3 => hh (i + 1) a v (by simp; omega) (by simpa using h2) (by simpa using h3))]
    rfl
theorem chain5 (w : World) (a1 a2 a3 a4 : Array Value) (t1 t2 t3 t4 : TypeId) :
    ((((w.alloc (.cells a1 t1)).alloc (.cells a2 t2)).alloc (.cells a3 t3)).alloc (.cells a4 t4)).heap[w.heap.size + 1]? = some (.cells a2 t2 (0, 0)) ∧
    ((((w.alloc (.cells a1 t1)).alloc (.cells a2 t2)).alloc (.cells a3 t3)).alloc (.cells a4 t4)).heap[w.heap.size + 1 + 1]? = some (.cells a3 t3 (0, 0)) ∧
    ((((w.alloc (.cells a1 t1)).alloc (.cells a2 t2)).alloc (.cells a3 t3)).alloc (.cells a4 t4)).heap[w.heap.size + 1 + 1 + 1]? = some (.cells a4 t4 (0, 0)) := by
  refine ⟨?_, ?_, ?_⟩
  · have h := lay (below2 _ (.cells a3 t3) (.cells a4 t4)) (heap_alloc_new (w.alloc (.cells a1 t1)) (.cells a2 t2))
    rwa [World.size_alloc] at h
  · have h := lay (below1 _ (.cells a4 t4)) (heap_alloc_new ((w.alloc (.cells a1 t1)).alloc (.cells a2 t2)) (.cells a3 t3))
    rwa [World.size_alloc, World.size_alloc] at h
  · have h := heap_alloc_new (((w.alloc (.cells a1 t1)).alloc (.cells a2 t2)).alloc (.cells a3 t3)) (.cells a4 t4)
    rwa [World.size_alloc, World.size_alloc, World.size_alloc] at h
theorem below4a (w : World) (o p q s : Obj) : Below w.heap.size w ((((w.alloc o).alloc p).alloc q).alloc s) := (below3a w o p q).alloc (by simp; omega) _
set_option maxRecDepth 100000 in
set_option maxHeartbeats 8000000 in
theorem rcall_out (sa ca : Option Addr) (n m sc cc : Nat) (x : CoD) (va fa ia : Option Addr) (vc fc ic : Nat) (r : InD) (ao mo : Option Addr) (ac mc : Nat) (w : World) (hm : m ≤ 9223372036854775807) (hf : inN m r.f = false) :
    Calls Try.prog 57 #[.agg #[.slice sa n sc, .slice ca m cc], .agg (CoV x va vc fa fc ia ic), .agg (InV r ao ac mo mc)] w fun e w' => e = .returned (.int .i64 15) ∧ Hid (Below w.heap.size w w') := by
  obtain ⟨op, d, a, b, tt, el, f, nn, l, c, sg, xs, ms⟩ := r
  simp only at hf
  have HB := hid (below3a w)
  have hk : f < 0 ∨ (¬ f < 0 ∧ (m : Int) ≤ f) := by
    by_cases h : f < 0
    · exact .inl h
    · refine .inr ⟨h, ?_⟩
      simp [inN] at hf
      omega
  clear hf
  rcases hk with h1 | ⟨h1, h2⟩
  all_goals
    go_enter Try.func57, Try.ntmps57
    go_wp2
    go_ret
    exact ⟨rfl, hid (HB.out _ _ _)⟩
set_option maxRecDepth 100000 in
set_option maxHeartbeats 8000000 in
theorem rcall_in (sa ca : Option Addr) (n m sc cc : Nat) (x : CoD) (va fa ia : Option Addr) (vc fc ic : Nat) (op a b tt el nn l c : Int) (sg : ByteArray) (xs ms : List Int) (ao mo : Option Addr) (ac mc : Nat) (kd kf bc oc : Nat) (pd : Bool) (nd : ByteArray) (g : CoD) (va2 fa2 ia2 : Option Addr) (vc2 fc2 ic2 : Nat) (w : World)
    (hm : m ≤ 9223372036854775807) (hkf : kf < m) (hC : RowM 3 VaAt w va x.vs) (hX : IntsM w ao xs) (hd : KindIs x kd pd nd) (htd : tyOf x kd = ⟨pd, nd⟩) (hxs : xs.all (inN x.vs.length) = true)
    (hca : ca = some ⟨bc, oc, none⟩) (hcc : CellsAt w bc (oc + kf * 8) (CoV g va2 vc2 fa2 fc2 ia2 ic2)) (hgv : RowM 3 VaAt w va2 g.vs) :
    Calls Try.prog 57 #[.agg #[.slice sa n sc, .slice ca m cc], .agg (CoV x va vc fa fc ia ic), .agg (InV ⟨op, kd, a, b, tt, el, kf, nn, l, c, sg, xs, ms⟩ ao ac mo mc)] w fun e w' => e = .returned (.int .i64 (calF g x ⟨op, kd, a, b, tt, el, kf, nn, l, c, sg, xs, ms⟩)) ∧ Hid (Below w.heap.size w w') := by
  subst hca
  have kf0 : (0 : Int) ≤ (kf : Int) := by omega
  have kf1 : (kf : Int) < (m : Int) := by omega
  have kf2 : (m : Int) ≤ 9223372036854775807 := by omega
  have g0 : w.cell? ⟨bc, oc + kf * 8, none⟩ = some (.string g.nm) := hcc 0 _ rfl
  have g1 : w.cell? ⟨bc, oc + kf * 8 + 1, none⟩ = some (.int .i64 g.pr) := hcc 1 _ rfl
  have g2 : w.cell? ⟨bc, oc + kf * 8 + 2, none⟩ = some (.slice va2 g.vs.length vc2) := hcc 2 _ rfl
  have g3 : w.cell? ⟨bc, oc + kf * 8 + 3, none⟩ = some (.bool g.rt.t.p) := hcc 3 _ rfl
  have g4 : w.cell? ⟨bc, oc + kf * 8 + 4, none⟩ = some (.string g.rt.t.name) := hcc 4 _ rfl
  have g5 : w.cell? ⟨bc, oc + kf * 8 + 5, none⟩ = some (.int .i64 g.rt.cls) := hcc 5 _ rfl
  have g6 : w.cell? ⟨bc, oc + kf * 8 + 6, none⟩ = some (.slice fa2 g.fr.length fc2) := hcc 6 _ rfl
  have g7 : w.cell? ⟨bc, oc + kf * 8 + 7, none⟩ = some (.slice ia2 g.ins.length ic2) := hcc 7 _ rfl
  have c0 := fun o p q => cell_keep (below3a w o p q) (cell_lt g0) g0
  have c1 := fun o p q => cell_keep (below3a w o p q) (cell_lt g1) g1
  have c2 := fun o p q => cell_keep (below3a w o p q) (cell_lt g2) g2
  have c3 := fun o p q => cell_keep (below3a w o p q) (cell_lt g3) g3
  have c4 := fun o p q => cell_keep (below3a w o p q) (cell_lt g4) g4
  have c5 := fun o p q => cell_keep (below3a w o p q) (cell_lt g5) g5
  have c6 := fun o p q => cell_keep (below3a w o p q) (cell_lt g6) g6
  have c7 := fun o p q => cell_keep (below3a w o p q) (cell_lt g7) g7
  clear g0 g1 g2 g3 g4 g5 g6 g7 hcc
  have HC := hid hC
  have HX := hid hX
  have HD := hid hd
  have HTD := hid htd
  have HXS := hid hxs
  have HGV := hid hgv
  have xl : (xs.length : Int) ≤ 9223372036854775807 := by have := hX.1; omega
  have gl : (g.vs.length : Int) ≤ 9223372036854775807 := by have := hgv.1; omega
  have xvl : (x.vs.length : Int) ≤ 9223372036854775807 := by have := hC.1; omega
  have HB := hid (below4a w)
  have HB3 := hid (below3a w)
  have HCH := hid (chain5 w)
  clear hC hX hd htd hxs hgv
  obtain ⟨G, hG⟩ : ∃ G, calF g x ⟨op, kd, a, b, tt, el, kf, nn, l, c, sg, xs, ms⟩ = G := ⟨_, rfl⟩
  rw [hG]
  have HG := hid hG
  clear hG
  by_cases q1 : (xs.length : Int) = g.pr
  case neg =>
    have HQ := hid q1
    have q1' : ((xs.length : Int) != g.pr) = true := by simpa using q1
    clear q1
    go_enter Try.func57, Try.ntmps57
    go_wp2
    go_ret
    exact ⟨by rw [← HG.out]; simp [calF, HQ.out], HB.out _ _ _ _⟩
  case pos =>
    have HQ := hid q1
    have q1' : ((xs.length : Int) != g.pr) = false := by simpa using q1
    by_cases q2 : (g.vs.length : Int) < g.pr
    case pos =>
      clear q1
      go_enter Try.func57, Try.ntmps57
      go_wp2
      go_ret
      exact ⟨by rw [← HG.out]; simp [calF]; have := HQ.out; omega, HB.out _ _ _ _⟩
    case neg =>
      have hlen := hid (show xs.length ≤ g.vs.length by omega)
      clear q1
      go_enter Try.func57, Try.ntmps57
      go_wp2
      go_loopg [8] xs.length (fun gk v8 wr => ∃ k : Nat, k ≤ xs.length ∧ gk = xs.length - k ∧ v8 = .int .i64 k ∧ Hid (Below w.heap.size w wr) ∧ Hid (wr.heap[w.heap.size + 1]? = some (.cells (CoV x va vc fa fc ia ic) 37 (0, 0))) ∧ Hid (wr.heap[w.heap.size + 1 + 1]? = some (.cells (InV ⟨op, kd, a, b, tt, el, kf, nn, l, c, sg, xs, ms⟩ ao ac mo mc) 49 (0, 0))) ∧ Hid (wr.heap[w.heap.size + 1 + 1 + 1]? = some (.cells (CoV g va2 vc2 fa2 fc2 ia2 ic2) 37 (0, 0))) ∧ Hid (∀ (i : Nat) y v, i < k → xs[i]? = some y → g.vs[i]? = some v → tyEq (tyOf x y) v.t = true))
      case atStart => exact ⟨0, by omega, by omega, rfl, hid (HB.out _ _ _ _), hid (HCH.out _ _ _ _ _ _ _ _).1, hid (HCH.out _ _ _ _ _ _ _ _).2.1, hid (HCH.out _ _ _ _ _ _ _ _).2.2, hid (fun i y v hi => absurd hi (by omega))⟩
      case round =>
        clear c0 c1 c2 c3 c4 c5 c6 c7
        obtain ⟨k, hk, rfl, rfl, HBk, HY, HI, HGb, HA⟩ := hrel
        have hy := cells_at HY.out
        have hi := cells_at HI.out
        have hgb := cells_at HGb.out
        by_cases hlt : k < xs.length
        · have hlt' : (k : Int) < (xs.length : Int) := by omega
          have hlt2 : (k : Int) < (g.vs.length : Int) := by have := hlen.out; omega
          have k0 : (0 : Int) ≤ (k : Int) := by omega
          obtain ⟨y, hy1⟩ : ∃ y, xs[k]? = some y := ⟨_, List.getElem?_eq_getElem hlt⟩
          obtain ⟨v, hv1⟩ : ∃ v, g.vs[k]? = some v := ⟨_, List.getElem?_eq_getElem (by omega)⟩
          have hyn : inN x.vs.length y = true := List.all_eq_true.1 HXS.out y (List.mem_of_getElem? hy1)
          obtain ⟨ky, py, ny, rfl, hky, hty⟩ := inN_get hyn
          obtain ⟨bx, ox, rfl, -, hxc⟩ := HX.out.2 k _ hy1
          obtain ⟨bv, ov, rfl, cd1, cd2, cdl⟩ := kind_cells HC.out hky
          obtain ⟨bg, og, rfl, cg1, cg2, cgl⟩ := kind_cells HGV.out (⟨v, hv1, rfl⟩ : KindIs g k v.t.p v.t.name)
          have hxc' : w.cell? ⟨bx, ox + k * 1, none⟩ = some (.int .i64 ky) := hxc
          simp only [Nat.mul_one] at hxc'
          have e0 := cell_keep HBk.out (cell_lt hxc') hxc'
          have e1 := cell_keep HBk.out (cell_lt cd1) cd1
          have e2 := cell_keep HBk.out (cell_lt cd2) cd2
          have e3 := cell_keep HBk.out (cell_lt cg1) cg1
          have e4 := cell_keep HBk.out (cell_lt cg2) cg2
          have ky0 : (0 : Int) ≤ (ky : Int) := by omega
          have ky1 : (ky : Int) < (x.vs.length : Int) := by omega
          have HY1 := hid hy1
          have HV1 := hid hv1
          have HTY := hid hty
          clear hy1 hv1 hyn hky hty hxc hxc' cd1 cd2 cdl cg1 cg2 cgl
          obtain ⟨p1, hp1⟩ : ∃ q, (py == v.t.p) = q := ⟨_, rfl⟩
          obtain ⟨p2, hp2⟩ : ∃ q, (ny.toList == v.t.name.toList) = q := ⟨_, rfl⟩
          have HTE : Hid (tyEq (tyOf x ky) v.t = (p1 && p2)) := hid (by rw [HTY.out, tyEq, sEq, hp1, hp2])
          by_cases hpp : (p1 && p2) = true
          · obtain ⟨rfl, rfl⟩ : p1 = true ∧ p2 = true := by simpa using hpp
            clear hpp
            go_wp2
            go_quiet (fail)
            go_wp2
            go_roundg (xs.length - (k + 1))
            case measure => omega
            case rel => exact ⟨k + 1, by omega, rfl, rfl, hid (below_drewN HBk.out _), HY, HI, HGb, hid (fun i y' v' hi h1 h2 => by
              by_cases hik : i < k
              · exact HA.out i y' v' hik h1 h2
              · obtain rfl : i = k := by omega
                rw [HY1.out] at h1
                rw [HV1.out] at h2
                cases h1
                cases h2
                exact HTE.out)⟩
          · have hpf : (p1 && p2) = false := by simpa using hpp
            have HPF : Hid (calF g x ⟨op, kd, a, b, tt, el, kf, nn, l, c, sg, xs, ms⟩ = 7) := hid (by
              simp only [calF]
              rw [argsEq_no x HY1.out HV1.out (HTE.out.trans hpf)]
              simp)
            cases p1 <;> cases p2 <;> simp at hpf
            all_goals
              go_wp2
              go_quiet (fail)
              go_wp2
              go_ret
              exact ⟨by rw [show G = 7 from HG.out.symm.trans HPF.out]; rfl, hid (below_drewN HBk.out _)⟩
        · have hlt' : ¬ (k : Int) < (xs.length : Int) := by omega
          obtain ⟨bv, ov, rfl, cd1, cd2, cdl⟩ := kind_cells HC.out HD.out
          have kd0 : (0 : Int) ≤ (kd : Int) := by omega
          have kd1 : (kd : Int) < (x.vs.length : Int) := by omega
          have HAA := hid (argsEq_yes x hlen.out (fun i y v h1 h2 h3 => HA.out i y v (by omega) h2 h3))
          have HE1 := hid cd1
          have HE2 := hid cd2
          have HKY := hid (fun W (hb : Below wr.heap.size wr W) => And.intro (hid (after HBk.out hb HBk.out.size)) (And.intro (cells_at (lay hb HY.out)) (And.intro (cells_at (lay hb HI.out)) (And.intro (cells_at (lay hb HGb.out)) (And.intro (cell_keep (after HBk.out hb HBk.out.size) (cell_lt HE1.out) HE1.out) (cell_keep (after HBk.out hb HBk.out.size) (cell_lt HE2.out) HE2.out))))))
          have HDW := hid (below_drew1 wr)
          obtain ⟨p1, hp1⟩ : ∃ q, (pd == g.rt.t.p) = q := ⟨_, rfl⟩
          obtain ⟨p2, hp2⟩ : ∃ q, (nd.toList == g.rt.t.name.toList) = q := ⟨_, rfl⟩
          have HRR : Hid (G = if p1 && p2 then 0 else 7) := hid (by
            rw [← HG.out]
            simp only [calF]
            have h1 := hlen.out
            rw [HAA.out, HTD.out, tyEq, sEq, hp1, hp2]
            simp [HQ.out, h1])
          clear cd1 cd2 cdl
          cases p1 <;> cases p2
          all_goals
            go_wp2
            refine wp_region_held_drew (S := fun W => Hid (Below w.heap.size w W) ∧ (∀ i, W.cell? ⟨w.heap.size + 1, i, none⟩ = (CoV x (some ⟨bv, ov, none⟩) vc fa fc ia ic)[i]?) ∧ (∀ i, W.cell? ⟨w.heap.size + 1 + 1, i, none⟩ = (InV ⟨op, kd, a, b, tt, el, kf, nn, l, c, sg, xs, ms⟩ ao ac mo mc)[i]?) ∧ (∀ i, W.cell? ⟨w.heap.size + 1 + 1 + 1, i, none⟩ = (CoV g va2 vc2 fa2 fc2 ia2 ic2)[i]?) ∧ W.cell? ⟨bv, ov + kd * 3, none⟩ = some (.bool pd) ∧ W.cell? ⟨bv, ov + kd * 3 + 1, none⟩ = some (.string nd)) (by kernel_rfl) ?_ (fun hHeld0 => ?_)
            · (try dsimp only) <;> (exact HKY.out _ HDW.out)
            refine wpAnyH_take (i := 0) (oi := { dst := Option.some 64, op := Go.Op.fieldAddr 37 (Go.Operand.tmp 4) 2, type := 0, pos := "ref.go:255", after := #[], guard := Option.none }) (v := ?_) rfl (by kernel_rfl) (by kernel_rfl) (by kernel_rfl) (fun _ _ _ h => h) (Or.inl ⟨by rfl, ?_⟩) (by assumption) ?_
            rotate_left
            · intro w5x hSwx
              try dsimp only at hSwx
              go_simp
              try with_reducible rfl
            try simp only [Act.put, List.setIfInBounds_toArray, List.set_cons_zero, List.set_cons_succ]
            refine wpAnyH_take (i := 1) (oi := { dst := Option.some 65, op := Go.Op.load 29 (Go.Operand.tmp 64), type := 29, pos := "ref.go:255", after := #[{ on := 0, ground := Go.Ground.data }], guard := Option.none }) (v := ?_) rfl (by kernel_rfl) (by kernel_rfl) (by kernel_rfl) (fun _ _ _ h => h) (Or.inl ⟨by rfl, ?_⟩) (by assumption) ?_
            rotate_left
            · intro w5x hSwx
              try dsimp only at hSwx
              go_simp
              try with_reducible rfl
            try simp only [Act.put, List.setIfInBounds_toArray, List.set_cons_zero, List.set_cons_succ]
            refine wpAnyH_take (i := 2) (oi := { dst := Option.some 66, op := Go.Op.fieldAddr 49 (Go.Operand.tmp 5) 1, type := 0, pos := "ref.go:255", after := #[], guard := Option.none }) (v := ?_) rfl (by kernel_rfl) (by kernel_rfl) (by kernel_rfl) (fun _ _ _ h => h) (Or.inl ⟨by rfl, ?_⟩) (by assumption) ?_
            rotate_left
            · intro w5x hSwx
              try dsimp only at hSwx
              go_simp
              try with_reducible rfl
            try simp only [Act.put, List.setIfInBounds_toArray, List.set_cons_zero, List.set_cons_succ]
            refine wpAnyH_take (i := 3) (oi := { dst := Option.some 67, op := Go.Op.load 3 (Go.Operand.tmp 66), type := 3, pos := "ref.go:255", after := #[{ on := 2, ground := Go.Ground.data }], guard := Option.none }) (v := ?_) rfl (by kernel_rfl) (by kernel_rfl) (by kernel_rfl) (fun _ _ _ h => h) (Or.inl ⟨by rfl, ?_⟩) (by assumption) ?_
            rotate_left
            · intro w5x hSwx
              try dsimp only at hSwx
              go_simp
              try with_reducible rfl
            try simp only [Act.put, List.setIfInBounds_toArray, List.set_cons_zero, List.set_cons_succ]
            refine wpAnyH_take (i := 4) (oi := { dst := Option.some 68, op := Go.Op.indexAddr 29 (Go.Operand.tmp 65) (Go.Operand.tmp 67), type := 0, pos := "ref.go:255", after := #[{ on := 1, ground := Go.Ground.data }, { on := 3, ground := Go.Ground.data }], guard := Option.none }) (v := ?_) rfl (by kernel_rfl) (by kernel_rfl) (by kernel_rfl) (fun _ _ _ h => h) (Or.inl ⟨by rfl, ?_⟩) (by assumption) ?_
            rotate_left
            · intro w5x hSwx
              try dsimp only at hSwx
              go_simp
              try with_reducible rfl
            try simp only [Act.put, List.setIfInBounds_toArray, List.set_cons_zero, List.set_cons_succ]
            refine wpAnyH_take (i := 5) (oi := { dst := Option.some 69, op := Go.Op.fieldAddr 33 (Go.Operand.tmp 68) 0, type := 0, pos := "ref.go:255", after := #[{ on := 4, ground := Go.Ground.data }], guard := Option.none }) (v := ?_) rfl (by kernel_rfl) (by kernel_rfl) (by kernel_rfl) (fun _ _ _ h => h) (Or.inl ⟨by rfl, ?_⟩) (by assumption) ?_
            rotate_left
            · intro w5x hSwx
              try dsimp only at hSwx
              go_simp
              try with_reducible rfl
            try simp only [Act.put, List.setIfInBounds_toArray, List.set_cons_zero, List.set_cons_succ]
            refine wpAnyH_take (i := 6) (oi := { dst := Option.some 70, op := Go.Op.load 31 (Go.Operand.tmp 69), type := 31, pos := "ref.go:255", after := #[{ on := 5, ground := Go.Ground.data }], guard := Option.none }) (v := ?_) rfl (by kernel_rfl) (by kernel_rfl) (by kernel_rfl) (fun _ _ _ h => h) (Or.inl ⟨by rfl, ?_⟩) (by assumption) ?_
            rotate_left
            · intro w5x hSwx
              try dsimp only at hSwx
              go_simp
              try with_reducible rfl
            try simp only [Act.put, List.setIfInBounds_toArray, List.set_cons_zero, List.set_cons_succ]
            refine wpAnyH_take (i := 7) (oi := { dst := Option.some 71, op := Go.Op.fieldAddr 37 (Go.Operand.tmp 7) 3, type := 0, pos := "ref.go:255", after := #[], guard := Option.none }) (v := ?_) rfl (by kernel_rfl) (by kernel_rfl) (by kernel_rfl) (fun _ _ _ h => h) (Or.inl ⟨by rfl, ?_⟩) (by assumption) ?_
            rotate_left
            · intro w5x hSwx
              try dsimp only at hSwx
              go_simp
              try with_reducible rfl
            try simp only [Act.put, List.setIfInBounds_toArray, List.set_cons_zero, List.set_cons_succ]
            refine wpAnyH_take (i := 8) (oi := { dst := Option.some 72, op := Go.Op.fieldAddr 33 (Go.Operand.tmp 71) 0, type := 0, pos := "ref.go:255", after := #[{ on := 7, ground := Go.Ground.data }], guard := Option.none }) (v := ?_) rfl (by kernel_rfl) (by kernel_rfl) (by kernel_rfl) (fun _ _ _ h => h) (Or.inl ⟨by rfl, ?_⟩) (by assumption) ?_
            rotate_left
            · intro w5x hSwx
              try dsimp only at hSwx
              go_simp
              try with_reducible rfl
            try simp only [Act.put, List.setIfInBounds_toArray, List.set_cons_zero, List.set_cons_succ]
            refine wpAnyH_take (i := 9) (oi := { dst := Option.some 73, op := Go.Op.load 31 (Go.Operand.tmp 72), type := 31, pos := "ref.go:255", after := #[{ on := 8, ground := Go.Ground.data }], guard := Option.none }) (v := ?_) rfl (by kernel_rfl) (by kernel_rfl) (by kernel_rfl) (fun _ _ _ h => h) (Or.inl ⟨by rfl, ?_⟩) (by assumption) ?_
            rotate_left
            · intro w5x hSwx
              try dsimp only at hSwx
              go_simp
              try with_reducible rfl
            try simp only [Act.put, List.setIfInBounds_toArray, List.set_cons_zero, List.set_cons_succ]
            refine wpAnyH_take (i := 10) (oi := { dst := Option.some 74, op := Go.Op.binOp Go.BinOp.neq 31 (Go.Operand.tmp 70) (Go.Operand.tmp 73) 31, type := 4, pos := "ref.go:255", after := #[{ on := 6, ground := Go.Ground.data }, { on := 9, ground := Go.Ground.data }], guard := Option.none }) (v := ?_) rfl (by kernel_rfl) (by kernel_rfl) (by kernel_rfl) (fun _ _ _ h => h) (Or.inl ⟨by rfl, ?_⟩) (by assumption) ?_
            rotate_left
            · intro w5x hSwx
              try dsimp only at hSwx
              go_simp
              try with_reducible rfl
            try simp only [Act.put, List.setIfInBounds_toArray, List.set_cons_zero, List.set_cons_succ]
            refine wpAnyH_ready (rs := [11]) (by kernel_rfl) (by simp) ?_
            refine AllReadyH.cons (o := { dst := Option.some 75, op := Go.Op.call { callee := Go.Callee.value (Go.Operand.func 40), args := #[Go.Operand.tmp 74, Go.Operand.const (Go.Value.int Go.IntKind.i64 7)], argTypes := #[4, 41] }, type := 41, pos := "ref.go:255", after := #[{ on := 10, ground := Go.Ground.data }], guard := Option.none }) rfl (fun K hK => ?_) AllReadyH.nil
            go_simp
            go_wp2_with (first | (go_at_call 40; refine (one_i _ _ _).mono ?_; rintro e w' ⟨rfl, rfl⟩))
            refine hK.out _ _ ?_ (fun hHeld3 => ?_)
            · (try dsimp only) <;> (exact HKY.out _ HDW.out)
            clear hK K hHeld0
            try simp only [Act.put, List.setIfInBounds_toArray, List.set_cons_zero, List.set_cons_succ]
            refine wpAnyH_take (i := 12) (oi := { dst := Option.some 6, op := Go.Op.assign (Go.Operand.tmp 75), type := 41, pos := "ref.go:255", after := #[{ on := 11, ground := Go.Ground.data }, { on := 11, ground := Go.Ground.chain }, { on := 0, ground := Go.Ground.phase }, { on := 1, ground := Go.Ground.phase }, { on := 2, ground := Go.Ground.phase }, { on := 3, ground := Go.Ground.phase }, { on := 4, ground := Go.Ground.phase }, { on := 5, ground := Go.Ground.phase }, { on := 6, ground := Go.Ground.phase }, { on := 7, ground := Go.Ground.phase }, { on := 8, ground := Go.Ground.phase }, { on := 9, ground := Go.Ground.phase }, { on := 10, ground := Go.Ground.phase }, { on := 11, ground := Go.Ground.phase }], guard := Option.none }) (v := ?_) rfl (by kernel_rfl) (by kernel_rfl) (by kernel_rfl) (fun _ _ _ h => h) (Or.inl ⟨by rfl, ?_⟩) (by assumption) ?_
            rotate_left
            · intro w5x hSwx
              try dsimp only at hSwx
              go_simp
              try with_reducible rfl
            try simp only [Act.put, List.setIfInBounds_toArray, List.set_cons_zero, List.set_cons_succ]
            refine wpAnyH_done (by kernel_rfl) ?_ _
            go_wp2
            go_ret
            exact ⟨by simp [HRR.out], hid (after HBk.out HDW.out HBk.out.size)⟩
end Go.Proofs.Ytfhdiahjfnphkaa
