/- Right, by the reference. Condition: at most 40 arguments. -/
import Derived.Test.YtfhdiahjfnphkaaCR33
import Derived.Test.YtfhdiahjfnphkaaCR27
namespace Go.Proofs.Ytfhdiahjfnphkaa
open Go.RowKit Go.Maps
set_option linter.unusedVariables false
set_option linter.unusedSimpArgs false
def firstC (ss : List StD) (cs : List CoD) : List CoD → Int
  | [] => 0
  | c :: l => if codF ss cs c = 0 then firstC ss cs l else codF ss cs c
abbrev mainB : ByteArray := ⟨#[109, 97, 105, 110]⟩
def mainF (cs : List CoD) : Int :=
  if idxL (coN mainB) cs 0 < 0 then 9 else match cs[(idxL (coN mainB) cs 0).toNat]? with
  | some c => if c.pr = 0 ∧ c.rt.t.p = false then 0 else 9
  | none => 9
/-- What is wrong with a module. -/
def rightF (ss : List StD) (cs : List CoD) : Int :=
  if 30 < ss.length ∨ 60 < cs.length then 2 else if twB ss cs then 6 else if unB ss cs then 5
  else if firstC ss cs cs = 0 then mainF cs else firstC ss cs cs
theorem firstC_at {ss : List StD} {cs : List CoD} : ∀ {l : List CoD} {k : Nat} {c : CoD}, l[k]? = some c → (∀ i u, i < k → l[i]? = some u → codF ss cs u = 0) → ¬ codF ss cs c = 0 → firstC ss cs l = codF ss cs c
  | [], _, _, h, _, _ => by simp at h
  | a :: l, 0, r, h, _, h0 => by
    simp at h
    subst h
    rw [firstC, if_neg h0]
  | a :: l, k + 1, r, h, hh, h0 => by
    rw [firstC, if_pos (hh 0 a (by omega) rfl)]
    exact firstC_at (by simpa using h) (fun i u hi hu => hh (i + 1) u (by omega) (by simpa using hu)) h0
theorem firstC_none {ss : List StD} {cs : List CoD} : ∀ {l : List CoD}, (∀ (i : Nat) u, i < l.length → l[i]? = some u → codF ss cs u = 0) → firstC ss cs l = 0
  | [], _ => rfl
  | a :: l, hh => by
    rw [firstC, if_pos (hh 0 a (by simp) rfl)]
    exact firstC_none (fun i u hi hu => hh (i + 1) u (by simp; omega) (by simpa using hu))
theorem unB_vars {ss : List StD} {cs : List CoD} {c : CoD} (h : unB ss cs = false) (hc : c ∈ cs) : ∀ v ∈ c.vs, badB ss v.t = false := by
  intro v hv
  rw [unB, Bool.or_eq_false_iff] at h
  have h2 := List.any_eq_false.1 h.2 c hc
  have h3 : (tysC c).any (badB ss) = false := by simpa using h2
  have h4 := List.any_eq_false.1 h3 v.t (List.mem_cons_of_mem _ (List.mem_map.2 ⟨v, hv, rfl⟩))
  simpa using h4
set_option maxRecDepth 100000 in
set_option maxHeartbeats 16000000 in
theorem rright_g (ss : List StD) (cs : List CoD) (sa ca : Option Addr) (sc cc : Nat) (w : World) (h1 : RowM 4 StAt w sa ss) (h2 : RowM 8 CoAt w ca cs) (h40 : ∀ c ∈ cs, ∀ r ∈ c.ins, r.xs.length ≤ 40) :
    Calls Try.prog 17 #[.agg #[.slice sa ss.length sc, .slice ca cs.length cc]] w fun e w' => e = .returned (.int .i64 (rightF ss cs)) ∧ Hid (Below w.heap.size w w') := by
  have hl1 := h1.1
  have hl2 := h2.1
  have HM := hid (heap_alloc_new w (.cells #[.slice sa ss.length sc, .slice ca cs.length cc] 25))
  have HB0 := hid (below1 w (.cells #[.slice sa ss.length sc, .slice ca cs.length cc] 25))
  have H1 := hid h1
  have H2 := hid h2
  have H40 := hid h40
  obtain ⟨Z, hZ⟩ : ∃ Z, rightF ss cs = Z := ⟨_, rfl⟩
  rw [hZ]
  have HZ := hid hZ
  clear h1 h2 h40 hZ
  by_cases g1 : (30 : Int) < (ss.length : Int)
  · go_enter Try.func17, Try.ntmps17
    go_wp2
    go_ret
    exact ⟨by rw [show Z = 2 by rw [← HZ.out, rightF, if_pos (.inl (by omega))]]; rfl, HB0⟩
  by_cases g2 : (60 : Int) < (cs.length : Int)
  · go_enter Try.func17, Try.ntmps17
    go_wp2
    go_ret
    exact ⟨by rw [show Z = 2 by rw [← HZ.out, rightF, if_pos (.inr (by omega))]]; rfl, HB0⟩
  have HZ1 : Hid (Z = if twB ss cs then 6 else if unB ss cs then 5 else if firstC ss cs cs = 0 then mainF cs else firstC ss cs cs) := hid (by rw [← HZ.out, rightF, if_neg (by omega)])
  obtain ⟨tw, htw⟩ : ∃ b, twB ss cs = b := ⟨_, rfl⟩
  have HTW := hid htw
  obtain ⟨un, hun⟩ : ∃ b, unB ss cs = b := ⟨_, rfl⟩
  have HUN := hid hun
  clear htw hun HZ
  cases tw
  case true =>
    go_enter Try.func17, Try.ntmps17
    go_wp2_with (first
      | (go_at_call 37; refine (rtwice_i ss cs sa ca sc cc true _ (H1.out.later st_stays HB0.out) (H2.out.later co_stays HB0.out) HTW.out).mono ?_; rintro e w1 ⟨rfl, hb1⟩; have HB1 := hid (after HB0.out hb1.out HB0.out.size)))
    go_ret
    exact ⟨by rw [show Z = 6 by rw [HZ1.out, HTW.out]; rfl]; rfl, HB1⟩
  cases un
  case true =>
    go_enter Try.func17, Try.ntmps17
    go_wp2_with (first
      | (go_at_call 37; refine (rtwice_i ss cs sa ca sc cc false _ (H1.out.later st_stays HB0.out) (H2.out.later co_stays HB0.out) HTW.out).mono ?_; rintro e w1 ⟨rfl, hb1⟩; have HB1 := hid (after HB0.out hb1.out HB0.out.size); have hm1 := cells_at (lay hb1.out HM.out))
      | (go_at_call 38; refine (unknown_i ss cs sa ca sc cc true _ (H1.out.later st_stays HB1.out) (H2.out.later co_stays HB1.out) HUN.out).mono ?_; rintro e w2 ⟨rfl, hb2⟩; have HB2 := hid (after HB1.out hb2.out HB1.out.size)))
    go_ret
    exact ⟨by rw [show Z = 5 by rw [HZ1.out, HTW.out, HUN.out]; rfl]; rfl, HB2⟩
  have HZ2 : Hid (Z = if firstC ss cs cs = 0 then mainF cs else firstC ss cs cs) := hid (by rw [HZ1.out, HTW.out, HUN.out]; rfl)
  clear HZ1
  go_enter Try.func17, Try.ntmps17
  go_wp2_with (first
    | (go_at_call 37; refine (rtwice_i ss cs sa ca sc cc false _ (H1.out.later st_stays HB0.out) (H2.out.later co_stays HB0.out) HTW.out).mono ?_; rintro e w1 ⟨rfl, hb1⟩; have HB1 := hid (after HB0.out hb1.out HB0.out.size); have HM1 := hid (lay hb1.out HM.out); have hm1 := cells_at HM1.out; clear hb1)
    | (go_at_call 38; refine (unknown_i ss cs sa ca sc cc false _ (H1.out.later st_stays HB1.out) (H2.out.later co_stays HB1.out) HUN.out).mono ?_; rintro e w2 ⟨rfl, hb2⟩; have HB2 := hid (after HB1.out hb2.out HB1.out.size); have HM2 := hid (lay hb2.out HM1.out); clear hb2))
  clear hm1
  go_loopg [3] cs.length (fun gk v3 wr => ∃ i : Nat, i ≤ cs.length ∧ gk = cs.length - i ∧ v3 = .int .i64 i ∧ Hid (Below w.heap.size w wr) ∧ Hid (wr.heap[w.heap.size]? = some (.cells #[.slice sa ss.length sc, .slice ca cs.length cc] 25 (0, 0))) ∧ Hid (∀ (j : Nat) u, j < i → cs[j]? = some u → codF ss cs u = 0))
  case atStart => exact ⟨0, by omega, by omega, rfl, HB2, HM2, hid (fun j u hj => absurd hj (by omega))⟩
  case round =>
    clear HB2 HM2
    obtain ⟨i, hi, rfl, rfl, HB2, HM2, HA⟩ := hrel
    have hm := cells_at HM2.out
    by_cases hlt : i < cs.length
    · have hlt' : (i : Int) < (cs.length : Int) := by omega
      have i0 : (0 : Int) ≤ (i : Int) := by omega
      obtain ⟨c, hc⟩ : ∃ c, cs[i]? = some c := ⟨_, List.getElem?_eq_getElem hlt⟩
      obtain ⟨bc, oc, rfl, hbc, va, vc, fa, fc, ia, ic, hcc, hcm⟩ := (H2.out.later co_stays HB2.out).2 i c hc
      have d0 : wr.cell? ⟨bc, oc + i * 8, none⟩ = some (.string c.nm) := hcc 0 _ rfl
      have d1 : wr.cell? ⟨bc, oc + i * 8 + 1, none⟩ = some (.int .i64 c.pr) := hcc 1 _ rfl
      have d2 : wr.cell? ⟨bc, oc + i * 8 + 2, none⟩ = some (.slice va c.vs.length vc) := hcc 2 _ rfl
      have d3 : wr.cell? ⟨bc, oc + i * 8 + 3, none⟩ = some (.bool c.rt.t.p) := hcc 3 _ rfl
      have d4 : wr.cell? ⟨bc, oc + i * 8 + 4, none⟩ = some (.string c.rt.t.name) := hcc 4 _ rfl
      have d5 : wr.cell? ⟨bc, oc + i * 8 + 5, none⟩ = some (.int .i64 c.rt.cls) := hcc 5 _ rfl
      have d6 : wr.cell? ⟨bc, oc + i * 8 + 6, none⟩ = some (.slice fa c.fr.length fc) := hcc 6 _ rfl
      have d7 : wr.cell? ⟨bc, oc + i * 8 + 7, none⟩ = some (.slice ia c.ins.length ic) := hcc 7 _ rfl
      have HCI := hid hc
      have HVL := hid (unB_vars HUN.out (List.mem_of_getElem? hc))
      have HC40 := hid (H40.out c (List.mem_of_getElem? hc))
      have HCM := hid (fun W (hb : Below wr.heap.size wr W) => hcm.later hb)
      have HB3 := hid (after HB2.out (below1 wr (.cells (CoV c va vc fa fc ia ic) 37)) HB2.out.size)
      have HCB := hid (heap_alloc_new wr (.cells (CoV c va vc fa fc ia ic) 37))
      have HM3 := hid (lay (below1 wr (.cells (CoV c va vc fa fc ia ic) 37)) HM2.out)
      have HBB := hid (below1 wr (.cells (CoV c va vc fa fc ia ic) 37))
      have vl : (c.vs.length : Int) ≤ 9223372036854775807 := by have := hcm.vs.1; omega
      have il : (c.ins.length : Int) ≤ 9223372036854775807 := by have := hcm.ins.1; omega
      have hcb := fun i => cells_at HCB.out i
      clear hc hcc hcm hbc
      obtain ⟨z, hz⟩ : ∃ z, codF ss cs c = z := ⟨_, rfl⟩
      have HZZ := hid hz
      clear hz
      have HFin : Hid (¬ z = 0 → Z = z) := hid (fun h => by
        have h' : ¬ codF ss cs c = 0 := by rw [HZZ.out]; exact h
        rw [HZ2.out, firstC_at HCI.out HA.out h', HZZ.out, if_neg h])
      by_cases g3 : (300 : Int) < (c.vs.length : Int)
      · have hz : z = 2 := by rw [← HZZ.out, codF, if_pos (.inl (by omega))]
        have HZF := hid (HFin.out (by omega))
        subst hz
        go_wp2
        go_ret
        exact ⟨by rw [HZF.out]; rfl, HB3⟩
      by_cases g4 : (c.ins.length : Int) < 1
      · have hz : z = 2 := by rw [← HZZ.out, codF, if_pos (.inr (.inl (by omega)))]
        have HZF := hid (HFin.out (by omega))
        subst hz
        go_wp2
        go_ret
        exact ⟨by rw [HZF.out]; rfl, HB3⟩
      by_cases g5 : (3000 : Int) < (c.ins.length : Int)
      · have hz : z = 2 := by rw [← HZZ.out, codF, if_pos (.inr (.inr (by omega)))]
        have HZF := hid (HFin.out (by omega))
        subst hz
        go_wp2
        go_ret
        exact ⟨by rw [HZF.out]; rfl, HB3⟩
      have HZ3 : Hid (z = if c.pr < 0 ∨ (c.vs.length : Int) < c.pr then 15 else if firstJ ss cs c c.ins = 0 then (if lastOp c.ins < 16 then 15 else 0) else firstJ ss cs c c.ins) := hid (by rw [← HZZ.out, codF, if_neg (by omega)])
      by_cases g6 : c.pr < 0
      · have hz : z = 15 := by rw [HZ3.out, if_pos (.inl g6)]
        have HZF := hid (HFin.out (by omega))
        subst hz
        go_wp2
        go_ret
        exact ⟨by rw [HZF.out]; rfl, HB3⟩
      by_cases g7 : (c.vs.length : Int) < c.pr
      · have hz : z = 15 := by rw [HZ3.out, if_pos (.inr g7)]
        have HZF := hid (HFin.out (by omega))
        subst hz
        go_wp2
        go_ret
        exact ⟨by rw [HZF.out]; rfl, HB3⟩
      have HZ4 : Hid (z = if firstJ ss cs c c.ins = 0 then (if lastOp c.ins < 16 then 15 else 0) else firstJ ss cs c c.ins) := hid (by rw [HZ3.out, if_neg (by omega)])
      clear HZ3
      obtain ⟨m, hm'⟩ : ∃ m, c.ins.length = m + 1 := ⟨c.ins.length - 1, by omega⟩
      have HML := hid hm'
      clear hm'
      go_wp2
      obtain ⟨W2, hW2⟩ : ∃ W2, wr.alloc (.cells (CoV c va vc fa fc ia ic) 37) = W2 := ⟨_, rfl⟩
      obtain ⟨C, hC⟩ : ∃ C, wr.heap.size = C := ⟨_, rfl⟩
      rw [hW2] at HB3 HCB HM3 HBB ⊢
      rw [hC] at HCB ⊢
      clear hW2 hC hcb hm d0 d1 d2 d3 d4 d5 d6 d7
      obtain ⟨WO, hWO⟩ : ∃ WO, WO = wr := ⟨_, rfl⟩
      subst hWO
      go_loopg [6] c.ins.length (fun gk v6 wr2 => ∃ k : Nat, k ≤ c.ins.length ∧ gk = c.ins.length - k ∧ v6 = .int .i64 k ∧ Hid (Below w.heap.size w wr2) ∧ Hid (wr2.heap[w.heap.size]? = some (.cells #[.slice sa ss.length sc, .slice (some ⟨bc, oc, none⟩) cs.length cc] 25 (0, 0))) ∧ Hid (wr2.heap[C]? = some (.cells (CoV c va vc fa fc ia ic) 37 (0, 0))) ∧ Hid (Below WO.heap.size WO wr2) ∧ Hid (∀ (j : Nat) u, j < k → c.ins[j]? = some u → jF ss cs c u = 0))
      case atStart => exact ⟨0, by omega, by omega, rfl, HB3, HM3, HCB, HBB, hid (fun j u hj => absurd hj (by omega))⟩
      case round =>
        clear HB3 HM3 HCB HBB
        obtain ⟨k, hk, rfl, rfl, HB3, HM3, HCB, HBB, HJA⟩ := hrel
        have hcb := fun i => cells_at HCB.out i
        have hm := cells_at HM3.out
        by_cases hlk : k < c.ins.length
        · have hlk' : (k : Int) < (c.ins.length : Int) := by omega
          have k0 : (0 : Int) ≤ (k : Int) := by omega
          obtain ⟨r, hr⟩ : ∃ r, c.ins[k]? = some r := ⟨_, List.getElem?_eq_getElem hlk⟩
          obtain ⟨bi, oi, rfl, hbi, ao, ac, mo, mc, hci, him⟩ := (HCM.out _ HBB.out).ins.2 k r hr
          have HRI := hid hr
          have HR40 := hid (HC40.out r (List.mem_of_getElem? hr))
          have HXS := hid (fun W (hb : Below wr.heap.size wr W) => him.xs.later int_stays hb)
          have HCI2 := hid (fun (W : World) (hb : Below wr.heap.size wr W) (j : Nat) (v : Value) (h : (InV r ao ac mo mc)[j]? = some v) => cell_keep hb hbi (hci j v h))
          have HDW := hid (below_drew1 wr)
          have KR := hid (fun W (hb : Below wr.heap.size wr W) => And.intro (hid (after HB3.out hb HB3.out.size)) (And.intro (cells_at (lay hb HM3.out)) (And.intro (cells_at (lay hb HCB.out)) (And.intro (HCI2.out W hb 0 _ rfl) (And.intro (HCI2.out W hb 1 _ rfl) (And.intro (HCI2.out W hb 2 _ rfl) (And.intro (HCI2.out W hb 3 _ rfl) (And.intro (HCI2.out W hb 4 _ rfl) (And.intro (HCI2.out W hb 5 _ rfl) (And.intro (HCI2.out W hb 6 _ rfl) (And.intro (HCI2.out W hb 7 _ rfl) (And.intro (HCI2.out W hb 8 _ rfl) (And.intro (HCI2.out W hb 9 _ rfl) (And.intro (HCI2.out W hb 10 _ rfl) (And.intro (HCI2.out W hb 11 _ rfl) (HCI2.out W hb 12 _ rfl))))))))))))))))
          clear hr hci him hbi HCI2
          obtain ⟨q, hq⟩ : ∃ q, jF ss cs c r = q := ⟨_, rfl⟩
          have HQ := hid hq
          clear hq
          go_wp2
          refine wp_region_held_drew (S := fun W => Hid (Below w.heap.size w W) ∧ (∀ i, W.cell? ⟨w.heap.size, i, none⟩ = (#[.slice sa ss.length sc, .slice (some ⟨bc, oc, none⟩) cs.length cc] : Array Value)[i]?) ∧ (∀ i, W.cell? ⟨C, i, none⟩ = (CoV c va vc fa fc (some ⟨bi, oi, none⟩) ic)[i]?) ∧ W.cell? ⟨bi, oi + k * 13, none⟩ = some (.int .i64 r.op) ∧ W.cell? ⟨bi, oi + k * 13 + 1, none⟩ = some (.int .i64 r.d) ∧ W.cell? ⟨bi, oi + k * 13 + 2, none⟩ = some (.int .i64 r.a) ∧ W.cell? ⟨bi, oi + k * 13 + 3, none⟩ = some (.int .i64 r.b) ∧ W.cell? ⟨bi, oi + k * 13 + 4, none⟩ = some (.int .i64 r.f) ∧ W.cell? ⟨bi, oi + k * 13 + 5, none⟩ = some (.int .i64 r.n) ∧ W.cell? ⟨bi, oi + k * 13 + 6, none⟩ = some (.string r.sg) ∧ W.cell? ⟨bi, oi + k * 13 + 7, none⟩ = some (.slice ao r.xs.length ac) ∧ W.cell? ⟨bi, oi + k * 13 + 8, none⟩ = some (.slice mo r.ms.length mc) ∧ W.cell? ⟨bi, oi + k * 13 + 9, none⟩ = some (.int .i64 r.tt) ∧ W.cell? ⟨bi, oi + k * 13 + 10, none⟩ = some (.int .i64 r.el) ∧ W.cell? ⟨bi, oi + k * 13 + 11, none⟩ = some (.int .i64 r.l) ∧ W.cell? ⟨bi, oi + k * 13 + 12, none⟩ = some (.int .i64 r.c)) (by kernel_rfl) ?_ (fun hHeld0 => ?_)
          · (try dsimp only) <;> (first | exact KR.out _ HDW.out | exact KR.out _ HDd.out)
          refine wpAnyH_take (i := 0) (oi := { dst := Option.some 69, op := Go.Op.load 25 (Go.Operand.tmp 1), type := 25, pos := "ref.go:278", after := #[], guard := Option.none }) (v := ?_) rfl (by kernel_rfl) (by kernel_rfl) (by kernel_rfl) (fun _ _ _ h => h) (Or.inl ⟨by rfl, ?_⟩) (by assumption) ?_
          rotate_left
          · intro w5x hSwx
            try dsimp only at hSwx
            go_simp
            try with_reducible rfl
          try simp only [Act.put, List.setIfInBounds_toArray, List.set_cons_zero, List.set_cons_succ]
          refine wpAnyH_take (i := 1) (oi := { dst := Option.some 70, op := Go.Op.load 37 (Go.Operand.tmp 4), type := 37, pos := "ref.go:278", after := #[], guard := Option.none }) (v := ?_) rfl (by kernel_rfl) (by kernel_rfl) (by kernel_rfl) (fun _ _ _ h => h) (Or.inl ⟨by rfl, ?_⟩) (by assumption) ?_
          rotate_left
          · intro w5x hSwx
            try dsimp only at hSwx
            go_simp
            try with_reducible rfl
          try simp only [Act.put, List.setIfInBounds_toArray, List.set_cons_zero, List.set_cons_succ]
          refine wpAnyH_take (i := 2) (oi := { dst := Option.some 71, op := Go.Op.fieldAddr 37 (Go.Operand.tmp 4) 5, type := 0, pos := "ref.go:278", after := #[], guard := Option.none }) (v := ?_) rfl (by kernel_rfl) (by kernel_rfl) (by kernel_rfl) (fun _ _ _ h => h) (Or.inl ⟨by rfl, ?_⟩) (by assumption) ?_
          rotate_left
          · intro w5x hSwx
            try dsimp only at hSwx
            go_simp
            try with_reducible rfl
          try simp only [Act.put, List.setIfInBounds_toArray, List.set_cons_zero, List.set_cons_succ]
          refine wpAnyH_take (i := 3) (oi := { dst := Option.some 72, op := Go.Op.load 35 (Go.Operand.tmp 71), type := 35, pos := "ref.go:278", after := #[{ on := 2, ground := Go.Ground.data }], guard := Option.none }) (v := ?_) rfl (by kernel_rfl) (by kernel_rfl) (by kernel_rfl) (fun _ _ _ h => h) (Or.inl ⟨by rfl, ?_⟩) (by assumption) ?_
          rotate_left
          · intro w5x hSwx
            try dsimp only at hSwx
            go_simp
            try with_reducible rfl
          try simp only [Act.put, List.setIfInBounds_toArray, List.set_cons_zero, List.set_cons_succ]
          refine wpAnyH_take (i := 4) (oi := { dst := Option.some 73, op := Go.Op.move (Go.Operand.tmp 6), type := 3, pos := "ref.go:278", after := #[], guard := Option.none }) (v := ?_) rfl (by kernel_rfl) (by kernel_rfl) (by kernel_rfl) (fun _ _ _ h => h) (Or.inl ⟨by rfl, ?_⟩) (by assumption) ?_
          rotate_left
          · intro w5x hSwx
            try dsimp only at hSwx
            go_simp
            try with_reducible rfl
          try simp only [Act.put, List.setIfInBounds_toArray, List.set_cons_zero, List.set_cons_succ]
          refine wpAnyH_take (i := 5) (oi := { dst := Option.some 74, op := Go.Op.indexAddr 35 (Go.Operand.tmp 72) (Go.Operand.tmp 73), type := 0, pos := "ref.go:278", after := #[{ on := 3, ground := Go.Ground.data }, { on := 4, ground := Go.Ground.data }], guard := Option.none }) (v := ?_) rfl (by kernel_rfl) (by kernel_rfl) (by kernel_rfl) (fun _ _ _ h => h) (Or.inl ⟨by rfl, ?_⟩) (by assumption) ?_
          rotate_left
          · intro w5x hSwx
            try dsimp only at hSwx
            go_simp
            try with_reducible rfl
          try simp only [Act.put, List.setIfInBounds_toArray, List.set_cons_zero, List.set_cons_succ]
          refine wpAnyH_take (i := 6) (oi := { dst := Option.some 75, op := Go.Op.load 49 (Go.Operand.tmp 74), type := 49, pos := "ref.go:278", after := #[{ on := 5, ground := Go.Ground.data }], guard := Option.none }) (v := ?_) rfl (by kernel_rfl) (by kernel_rfl) (by kernel_rfl) (fun _ _ _ h => h) (Or.inl ⟨by rfl, ?_⟩) (by assumption) ?_
          rotate_left
          · intro w5x hSwx
            try dsimp only at hSwx
            go_simp
            try with_reducible rfl
          try simp only [Act.put, List.setIfInBounds_toArray, List.set_cons_zero, List.set_cons_succ]
          refine wpAnyH_ready (rs := [7]) (by kernel_rfl) (by simp) ?_
          refine AllReadyH.cons (o := { dst := Option.some 76, op := Go.Op.call { callee := Go.Callee.value (Go.Operand.func 39), args := #[Go.Operand.tmp 69, Go.Operand.tmp 70, Go.Operand.tmp 75], argTypes := #[25, 37, 49] }, type := 41, pos := "ref.go:278", after := #[{ on := 0, ground := Go.Ground.data }, { on := 1, ground := Go.Ground.data }, { on := 6, ground := Go.Ground.data }], guard := Option.none }) rfl (fun K hK => ?_) AllReadyH.nil
          go_simp
          go_wp2_with (first | (go_at_call 39; refine (rinstr_g ss cs _ _ rfl rfl sa (some ⟨bc, oc, none⟩) sc cc c va fa (some ⟨bi, oi, none⟩) vc fc ic r ao mo ac mc _ (H1.out.later st_stays (after HB3.out HDW.out HB3.out.size)) (H2.out.later co_stays (after HB3.out HDW.out HB3.out.size)) ((HCM.out _ (after HBB.out HDW.out HBB.out.size)).vs) (HXS.out _ HDW.out) HR40.out (by omega) HVL.out).mono ?_; rintro e w5 ⟨rfl, hb5⟩; have HDd := hid (after HDW.out hb5.out HDW.out.size); clear hb5))
          refine hK.out _ _ ?_ (fun hHeld3 => ?_)
          · (try dsimp only) <;> (first | exact KR.out _ HDW.out | exact KR.out _ HDd.out)
          clear hK K hHeld0
          try simp only [Act.put, List.setIfInBounds_toArray, List.set_cons_zero, List.set_cons_succ]
          refine wpAnyH_take (i := 8) (oi := { dst := Option.some 7, op := Go.Op.assign (Go.Operand.tmp 76), type := 41, pos := "ref.go:278", after := #[{ on := 7, ground := Go.Ground.data }, { on := 7, ground := Go.Ground.chain }, { on := 0, ground := Go.Ground.phase }, { on := 1, ground := Go.Ground.phase }, { on := 2, ground := Go.Ground.phase }, { on := 3, ground := Go.Ground.phase }, { on := 4, ground := Go.Ground.phase }, { on := 5, ground := Go.Ground.phase }, { on := 6, ground := Go.Ground.phase }, { on := 7, ground := Go.Ground.phase }], guard := Option.none }) (v := ?_) rfl (by kernel_rfl) (by kernel_rfl) (by kernel_rfl) (fun _ _ _ h => h) (Or.inl ⟨by rfl, ?_⟩) (by assumption) ?_
          rotate_left
          · intro w5x hSwx
            try dsimp only at hSwx
            go_simp
            try with_reducible rfl
          try simp only [Act.put, List.setIfInBounds_toArray, List.set_cons_zero, List.set_cons_succ]
          refine wpAnyH_done (by kernel_rfl) ?_ _
          have HB5 := hid (after HB3.out HDd.out HB3.out.size)
          rw [HQ.out]
          by_cases q0 : q = 0
          · go_wp2
            go_roundg (c.ins.length - (k + 1))
            case measure => omega
            case rel => exact ⟨k + 1, by omega, rfl, rfl, HB5, hid (lay HDd.out HM3.out), hid (lay HDd.out HCB.out), hid (after HBB.out HDd.out HBB.out.size), hid (fun j u hj hu => by
              by_cases hjk : j < k
              · exact HJA.out j u hjk hu
              · obtain rfl : j = k := by omega
                rw [HRI.out] at hu
                cases hu
                exact HQ.out.trans q0)⟩
          · have HQZ : Hid (Z = q) := hid (by
              have h1 := first_at HRI.out HJA.out (by rw [HQ.out]; exact q0)
              rw [HQ.out] at h1
              have h2 : z = q := by rw [HZ4.out, h1, if_neg q0]
              rw [← h2]
              exact HFin.out (by rw [h2]; exact q0))
            go_wp2
            go_ret
            exact ⟨by rw [HQZ.out]; rfl, HB5⟩
        · have hlk' : ¬ (k : Int) < (c.ins.length : Int) := by omega
          obtain ⟨r, hr⟩ : ∃ r, c.ins[m]? = some r := ⟨_, List.getElem?_eq_getElem (by have := HML.out; omega)⟩
          have HF0 := hid (first_none (fun i u hi hu => HJA.out i u (by omega) hu))
          have hop := jF_op (HJA.out m r (by have := HML.out; omega) hr)
          have HLA := hid (last_at HML.out hr)
          obtain ⟨bi, oi, rfl, hbi, ao, ac, mo, mc, hci, him⟩ := (HCM.out _ HBB.out).ins.2 m r hr
          have e0 : wr.cell? ⟨bi, oi + m * 13, none⟩ = some (.int .i64 r.op) := hci 0 _ rfl
          have HZ5 : Hid (z = if r.op < 16 then 15 else 0) := hid (by rw [HZ4.out, if_pos HF0.out, HLA.out])
          have hwr : IntKind.i64.wrap ((c.ins.length : Int) - 1) = (m : Int) := by rw [IntKind.wrap_i64]; have := HML.out; omega
          have m0 : (0 : Int) ≤ (m : Int) := by omega
          have m1 : (m : Int) < (c.ins.length : Int) := by have := HML.out; omega
          clear hr hci him hbi hop
          by_cases o16 : r.op < 16
          · have HQZ : Hid (Z = 15) := hid (by
              have h2 : z = 15 := by rw [HZ5.out, if_pos o16]
              rw [← h2]
              exact HFin.out (by omega))
            go_wp2
            go_ret
            exact ⟨by rw [HQZ.out]; rfl, HB3⟩
          · have HZ0 : Hid (z = 0) := hid (by rw [HZ5.out, if_neg o16])
            go_wp2
            go_roundg (cs.length - (i + 1))
            case measure => omega
            case rel => exact ⟨i + 1, by omega, rfl, rfl, HB3, HM3, hid (fun j u hj hu => by
              by_cases hji : j < i
              · exact HA.out j u hji hu
              · obtain rfl : j = i := by omega
                rw [HCI.out] at hu
                cases hu
                exact HZZ.out.trans HZ0.out)⟩
    · have hlt' : ¬ (i : Int) < (cs.length : Int) := by omega
      have HFN := hid (firstC_none (ss := ss) (cs := cs) (l := cs) (fun j u hj hu => HA.out j u (by omega) hu))
      have HZM : Hid (Z = mainF cs) := hid (by rw [HZ2.out, if_pos HFN.out])
      obtain ⟨x, hx⟩ : ∃ x, idxL (coN mainB) cs 0 = x := ⟨_, rfl⟩
      have HXI := hid hx
      have HF := hid (rfunc_co (.slice sa ss.length sc) cs ca cc mainB wr (H2.out.later co_stays HB2.out) ⟨_, _, _, rfl⟩)
      rw [hx] at HF
      clear hx
      by_cases x0 : x < 0
      · have HZ9 : Hid (Z = 9) := hid (by rw [HZM.out, mainF, HXI.out, if_pos x0])
        go_wp2_with (first
          | (go_at_call 13; refine HF.out.mono ?_; rintro e w5 ⟨rfl, hb5⟩; have HB5 := hid (after HB2.out hb5.out HB2.out.size); clear hb5)
          | (go_at_call 40; refine (one_i _ _ _).mono ?_; rintro e w' ⟨rfl, rfl⟩))
        go_ret
        exact ⟨by rw [HZ9.out]; rfl, HB5⟩
      · obtain ⟨kx, rfl⟩ : ∃ k : Nat, x = k := ⟨x.toNat, by omega⟩
        obtain ⟨kx', c, hc, -, hkx⟩ := idx_get (q := coN mainB) (l := cs) (k := 0) (by omega) (by rw [HXI.out]; omega)
        obtain rfl : kx' = kx := by rw [HXI.out] at hkx; omega
        obtain ⟨bc, oc, rfl, hbc, va, vc, fa, fc, ia, ic, hcc, hcm⟩ := (H2.out.later co_stays HB2.out).2 kx' c hc
        have HCC := hid (fun (W : World) (hb : Below wr.heap.size wr W) => And.intro (cell_keep hb hbc (hcc 1 (Value.int .i64 c.pr) rfl)) (cell_keep hb hbc (hcc 3 (Value.bool c.rt.t.p) rfl)))
        have k0 : (0 : Int) ≤ (kx' : Int) := by omega
        have k1 : (kx' : Int) < (cs.length : Int) := by have := (List.getElem?_eq_some_iff.1 hc).1; omega
        have HZ9 : Hid (Z = if c.pr = 0 ∧ c.rt.t.p = false then 0 else 9) := hid (by rw [HZM.out, mainF, HXI.out, if_neg x0, Int.toNat_natCast, hc])
        have hmx : max (kx' : Int) 0 = kx' := by omega
        obtain ⟨tp, htp⟩ : ∃ b, c.rt.t.p = b := ⟨_, rfl⟩
        rw [htp] at HZ9
        clear hc hcc hcm hbc
        by_cases p0 : c.pr = 0
        · cases tp
          all_goals
            go_wp2_with (first
              | (go_at_call 13; refine HF.out.mono ?_; rintro e w5 ⟨rfl, hb5⟩; have HB5 := hid (after HB2.out hb5.out HB2.out.size); have hm5 := cells_at (lay hb5.out HM2.out); have hc5 := (HCC.out _ hb5.out).1; have hc6 := (HCC.out _ hb5.out).2; clear hb5)
              | (go_at_call 40; refine (one_i _ _ _).mono ?_; rintro e w' ⟨rfl, rfl⟩))
            go_ret
            exact ⟨by rw [HZ9.out]; simp [p0], HB5⟩
        · have p0' : (c.pr != 0) = true := by simpa using p0
          cases tp
          all_goals
            go_wp2_with (first
              | (go_at_call 13; refine HF.out.mono ?_; rintro e w5 ⟨rfl, hb5⟩; have HB5 := hid (after HB2.out hb5.out HB2.out.size); have hm5 := cells_at (lay hb5.out HM2.out); have hc5 := (HCC.out _ hb5.out).1; have hc6 := (HCC.out _ hb5.out).2; clear hb5)
              | (go_at_call 40; refine (one_i _ _ _).mono ?_; rintro e w' ⟨rfl, rfl⟩))
            go_ret
            exact ⟨by rw [HZ9.out]; simp [p0], HB5⟩
end Go.Proofs.Ytfhdiahjfnphkaa
