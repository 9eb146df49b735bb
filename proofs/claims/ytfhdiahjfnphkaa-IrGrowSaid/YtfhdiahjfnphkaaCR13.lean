/- One among numbers, and what an instruction writes, by the reference. No conditions. -/
import Derived.Test.YtfhdiahjfnphkaaCR12
namespace Go.Proofs.Ytfhdiahjfnphkaa
open Go.RowKit Go.Maps
set_option linter.unusedVariables false
set_option linter.unusedSimpArgs false
theorem in_g (xs : List Int) (q : Int) (A : Option Addr) (c : Nat) (r : Bool) (w : World) (h1 : IntsM w A xs) (hr : xs.any (fun x => x == q) = r) :
    Calls Try.prog 72 #[.int .i64 q, .slice A xs.length c] w fun e w' => e = .returned (.bool r) ∧ w' = w := by
  have hl := h1.1
  obtain ⟨n, hn⟩ : ∃ n : Nat, xs.length = n := ⟨_, rfl⟩
  rw [hn]
  rw [hn] at hl
  have H1 := hid h1
  have HN := hid hn
  have HR := hid hr
  clear h1 hn hr
  go_enter Try.func72, Try.ntmps72
  go_wp2
  go_loopg [5] n (fun gk v5 wr => ∃ k : Nat, k ≤ n ∧ gk = n - k ∧ v5 = .int .i64 k ∧ wr = w ∧ Hid (∀ i x, i < k → xs[i]? = some x → (x == q) = false))
  case atStart => exact ⟨0, by omega, by omega, rfl, rfl, hid (fun i x hi => absurd hi (by omega))⟩
  case round =>
    obtain ⟨k, hk, rfl, rfl, rfl, HA⟩ := hrel
    by_cases hlt : k < n
    · have hlt' : (k : Int) < (n : Int) := by omega
      obtain ⟨y, hy⟩ := get_some HN.out hlt
      obtain ⟨b, o, rfl, hb1, hc1⟩ := H1.out.2 k y hy
      simp only [IntAt, Nat.mul_one] at hc1
      have HY := hid hy
      clear hy
      by_cases e : y = q
      · have hf : r = true := HR.out.symm.trans (List.any_eq_true.2 ⟨y, List.mem_of_getElem? HY.out, by simpa using e⟩)
        subst hf
        go_wp2
        go_ret
        exact ⟨rfl, rfl⟩
      · go_wp2
        go_roundg (n - (k + 1))
        case measure => omega
        case rel => exact ⟨k + 1, by omega, by omega, rfl, rfl, hid (fun i x' hi h1 => by
          by_cases hik : i < k
          · exact HA.out i x' hik h1
          · obtain rfl : i = k := by omega
            rw [HY.out] at h1
            cases h1
            simpa using e)⟩
    · have hlt' : ¬ (k : Int) < (n : Int) := by omega
      have hf : r = false := HR.out.symm.trans (List.any_eq_false.2 (fun x hx => by
        obtain ⟨i, hi⟩ := List.getElem?_of_mem hx
        have h2 := HA.out i x (by have := HN.out; have := (List.getElem?_eq_some_iff.1 hi).1; omega) hi
        simpa using h2))
      subst hf
      go_wp2
      go_ret
      exact ⟨rfl, rfl⟩
theorem ints_new (w : World) (L : List Int) (cs : Array Value) (k : Nat) (hk : w.heap.size = k) (hc : cs.toList = L.map (Value.int .i64)) (hl : L.length ≤ 9223372036854775807) : IntsM (w.alloc (.cells cs 3)) (some ⟨k, 0, none⟩) L := by
  refine ⟨hl, fun i x hx => ⟨k, 0, rfl, by rw [World.size_alloc]; omega, ?_⟩⟩
  have h := cells_at (heap_alloc_new w (.cells cs 3)) i
  rw [hk] at h
  have h2 : cs[i]? = some (.int .i64 x) := by rw [← Array.getElem?_toList, hc, List.getElem?_map, hx]; rfl
  show (w.alloc (.cells cs 3)).cell? ⟨k, 0 + i * 1, none⟩ = _
  rw [show 0 + i * 1 = i by omega, h, h2]
def wrL : List Int := [1, 2, 3, 4, 5, 7, 9, 10, 12, 14, 15]
def wrB (op : Int) : Bool := wrL.any (fun x => x == op)
theorem writes_g (r : InD) (bw : Bool) (ao mo : Option Addr) (ac mc : Nat) (w : World) (hb : wrB r.op = bw) :
    Calls Try.prog 52 #[.agg (InV r ao ac mo mc)] w fun e w' => e = .returned (.tuple #[.int .i64 (if bw then r.d else 0), .bool bw]) ∧ Hid (Below w.heap.size w w') := by
  obtain ⟨op, d, a, b, tt, el, f, n, l, c, sg, xs, ms⟩ := r
  have HB := hid (below2 w)
  have HW := hid hb
  clear hb
  cases bw
  · go_enter Try.func52, Try.ntmps52
    go_wp2_with (go_at_call 72; refine (in_g wrL op _ 11 _ _ (ints_new _ wrL _ _ (World.size_alloc _ _) rfl (by decide)) HW.out).mono ?_; rintro e w' ⟨rfl, rfl⟩)
    exact bodyPost_ret (v := .tuple #[.int .i64 0, .bool false]) (by simp [results, Try.results52, go_sem]) rfl ⟨rfl, hid (HB.out _ _)⟩
  · go_enter Try.func52, Try.ntmps52
    go_wp2_with (go_at_call 72; refine (in_g wrL op _ 11 _ _ (ints_new _ wrL _ _ (World.size_alloc _ _) rfl (by decide)) HW.out).mono ?_; rintro e w' ⟨rfl, rfl⟩)
    exact bodyPost_ret (v := .tuple #[.int .i64 d, .bool true]) (by simp [results, Try.results52, go_sem]) rfl ⟨rfl, hid (HB.out _ _)⟩
end Go.Proofs.Ytfhdiahjfnphkaa
/- Asked, and null or not, by a judge. No conditions. -/
namespace Go.Proofs.Ytfhdiahjfnphkaa
open Go.RowKit Go.Maps
set_option linter.unusedVariables false
set_option linter.unusedSimpArgs false
def isNF (x : CoD) (r : InD) : Int := if inN x.vs.length r.d && inN x.vs.length r.a then (if (tyOf x r.d).p || !(tyOf x r.a).p then 7 else if eqS r.sg then 0 else 3) else 15
theorem boxA (w : World) (vs : Array Value) (t : TypeId) (o : Obj) : ((w.alloc (.cells vs t)).alloc o).heap[w.heap.size]? = some (.cells vs t (0, 0)) :=
  (Below.heap_alloc _ _ _ (by simp)).trans (heap_alloc_new w _)
theorem lay {W W' : World} {k t : Nat} {vs : Array Value} (hb : Below W.heap.size W W') (h : W.heap[k]? = some (.cells vs t (0, 0))) : W'.heap[k]? = some (.cells vs t (0, 0)) := old_block hb (Array.getElem?_eq_some_iff.1 h).1 h
theorem new_cell3a (w : World) (o p : Obj) (v u : Value) (t : TypeId) : (((w.alloc o).alloc p).alloc (.cells #[v, u] t)).cell? ⟨w.heap.size + 1 + 1, 0, none⟩ = some v := by
  have := heap_alloc_new ((w.alloc o).alloc p) (.cells #[v, u] t)
  rw [World.size_alloc, World.size_alloc] at this
  exact cells_at this 0
theorem new_cell3b (w : World) (o p : Obj) (v u : Value) (t : TypeId) : (((w.alloc o).alloc p).alloc (.cells #[v, u] t)).cell? ⟨w.heap.size + 1 + 1, 1, none⟩ = some u := by
  have := heap_alloc_new ((w.alloc o).alloc p) (.cells #[v, u] t)
  rw [World.size_alloc, World.size_alloc] at this
  exact cells_at this 1
theorem new_cell2b (w : World) (o : Obj) (v u : Value) (t : TypeId) : ((w.alloc o).alloc (.cells #[v, u] t)).cell? ⟨w.heap.size + 1, 1, none⟩ = some u := by
  have := heap_alloc_new (w.alloc o) (.cells #[v, u] t)
  rw [World.size_alloc] at this
  exact cells_at this 1
theorem new_cell2a (w : World) (o : Obj) (v u : Value) (t : TypeId) : ((w.alloc o).alloc (.cells #[v, u] t)).cell? ⟨w.heap.size + 1, 0, none⟩ = some v := by
  have := heap_alloc_new (w.alloc o) (.cells #[v, u] t)
  rw [World.size_alloc] at this
  exact cells_at this 0
theorem asked_g (p : JP) (J : Nat) (r : InD) (ao mo : Option Addr) (ac mc : Nat) (w : World) (hj : JG w J p) :
    Calls Try.prog 61 #[.pointer (some ⟨J, 0, none⟩), .agg (InV r ao ac mo mc)] w fun e w' => e = .returned (.int .i64 (askF p.x r)) ∧ Hid (Below w.heap.size w w') := by
  obtain ⟨op, d, a, b, tt, el, f, n, l, c, sg, xs, ms⟩ := r
  have HJ := hid (fun W (hb : Below w.heap.size w W) => hj.later hb)
  have HB := hid (below2 w)
  have hfd : ∀ b n (w : World), (Instr.field 31 (.agg #[.bool b, .string n]) 0).run Try.prog w = .ok (.bool b) w := fun _ _ _ => by kernel_rfl
  clear hj
  cases e : inN p.x.vs.length a
  case false =>
    have hf : askF p.x ⟨op, d, a, b, tt, el, f, n, l, c, sg, xs, ms⟩ = 15 := by simp [askF, e]
    rw [hf]
    clear hf
    go_enter Try.func61, Try.ntmps61
    go_wp2_with (first
      | (go_at_call 74; refine (there_1 p a _ _ _ _ (new_cell _ _ _ _) (HJ.out _ (HB.out _ _)) e).mono ?_; rintro e w' ⟨rfl, rfl⟩))
    go_ret
    exact ⟨rfl, hid (HB.out _ _)⟩
  case true =>
    obtain ⟨k, pp, nm, rfl, hv, ht⟩ := inN_get e
    have HV := hid hv
    clear hv
    by_cases h17 : op = 17
    · subst h17
      have HB3 := hid (fun o1 o2 o3 => (HB.out o1 o2).alloc (by simp; omega) o3)
      cases e2 : (inN p.x.ins.length tt && inN p.x.ins.length el)
      · have hf : askF p.x ⟨17, d, (k : Int), b, tt, el, f, n, l, c, sg, xs, ms⟩ = 15 := by simp only [askF, e, e2]; rfl
        rw [hf]
        clear hf ht
        go_enter Try.func61, Try.ntmps61
        go_wp2_with (first
          | (go_at_call 74; refine (there_1 p k _ _ _ _ (new_cell _ _ _ _) (HJ.out _ (HB.out _ _)) e).mono ?_; rintro e w' ⟨rfl, rfl⟩)
          | (go_at_call 79; refine (place_2 p tt el _ _ _ _ (new_cell3a _ _ _ _ _ _) (new_cell3b _ _ _ _ _ _) (HJ.out _ (HB3.out _ _ _)) e2).mono ?_; rintro e w' ⟨rfl, rfl⟩))
        go_ret
        exact ⟨rfl, hid (HB3.out _ _ _)⟩
      · have hf : askF p.x ⟨17, d, (k : Int), b, tt, el, f, n, l, c, sg, xs, ms⟩ = (if pp then 7 else 0) := by simp only [askF, e, e2, ht]; rfl
        rw [hf]
        clear hf ht
        cases pp
        all_goals
          go_enter Try.func61, Try.ntmps61
          go_wp2_with (first
            | (go_at_call 74; refine (there_1 p k _ _ _ _ (new_cell _ _ _ _) (HJ.out _ (HB.out _ _)) e).mono ?_; rintro e w' ⟨rfl, rfl⟩)
            | (go_at_call 79; refine (place_2 p tt el _ _ _ _ (new_cell3a _ _ _ _ _ _) (new_cell3b _ _ _ _ _ _) (HJ.out _ (HB3.out _ _ _)) e2).mono ?_; rintro e w' ⟨rfl, rfl⟩)
            | (go_at_call 76; refine (kind_j p k _ _ _ _ (HJ.out _ (HB3.out _ _ _)) HV.out).mono ?_; rintro e w1 ⟨rfl, hb1⟩)
            | (go_at_call 75; refine (mist_i _ _).mono ?_; rintro e w' ⟨rfl, rfl⟩))
          all_goals go_ret
          all_goals exact ⟨rfl, hid (after (HB3.out _ _ _) hb1.out (HB3.out _ _ _).size)⟩
    · have hf : askF p.x ⟨op, d, (k : Int), b, tt, el, f, n, l, c, sg, xs, ms⟩ = (if pp then 7 else 0) := by
        have e3 : (op == 17) = false := by simpa using h17
        simp only [askF, e, e3, ht]; rfl
      rw [hf]
      clear hf ht
      cases pp
      all_goals
        go_enter Try.func61, Try.ntmps61
        go_wp2_with (first
          | (go_at_call 74; refine (there_1 p k _ _ _ _ (new_cell _ _ _ _) (HJ.out _ (HB.out _ _)) e).mono ?_; rintro e w' ⟨rfl, rfl⟩)
          | (go_at_call 76; refine (kind_j p k _ _ _ _ (HJ.out _ (HB.out _ _)) HV.out).mono ?_; rintro e w1 ⟨rfl, hb1⟩)
          | (go_at_call 75; refine (mist_i _ _).mono ?_; rintro e w' ⟨rfl, rfl⟩))
        all_goals go_ret
        all_goals exact ⟨rfl, hid (after (HB.out _ _) hb1.out (HB.out _ _).size)⟩
theorem isnull_g (p : JP) (J : Nat) (r : InD) (ao mo : Option Addr) (ac mc : Nat) (w : World) (hj : JG w J p) :
    Calls Try.prog 67 #[.pointer (some ⟨J, 0, none⟩), .agg (InV r ao ac mo mc)] w fun e w' => e = .returned (.int .i64 (isNF p.x r)) ∧ Hid (Below w.heap.size w w') := by
  obtain ⟨op, d, a, b, tt, el, f, n, l, c, sg, xs, ms⟩ := r
  have HJ := hid (fun W (hb : Below w.heap.size w W) => hj.later hb)
  have HB := hid (below2 w)
  have hfd : ∀ b n (w : World), (Instr.field 31 (.agg #[.bool b, .string n]) 0).run Try.prog w = .ok (.bool b) w := fun _ _ _ => by kernel_rfl
  have HX := hid (boxA w (InV ⟨op, d, a, b, tt, el, f, n, l, c, sg, xs, ms⟩ ao ac mo mc) 49)
  clear hj
  cases e : (inN p.x.vs.length d && inN p.x.vs.length a)
  case false =>
    have hf : isNF p.x ⟨op, d, a, b, tt, el, f, n, l, c, sg, xs, ms⟩ = 15 := by simp only [isNF, e]; rfl
    rw [hf]
    clear hf
    go_enter Try.func67, Try.ntmps67
    go_wp2_with (first
      | (go_at_call 74; refine (there_2 p d a _ _ _ _ (new_cell2a _ _ _ _ _) (new_cell2b _ _ _ _ _) (HJ.out _ (HB.out _ _)) e).mono ?_; rintro e w' ⟨rfl, rfl⟩))
    go_ret
    exact ⟨rfl, hid (HB.out _ _)⟩
  case true =>
    have e' := e
    rw [Bool.and_eq_true] at e'
    obtain ⟨k, pp, nm, rfl, hv, ht⟩ := inN_get e'.1
    obtain ⟨k2, p2, nm2, rfl, hv2, ht2⟩ := inN_get e'.2
    clear e'
    have HV := hid hv
    have HV2 := hid hv2
    clear hv hv2
    cases pp
    all_goals cases p2
    all_goals cases es : eqS sg
    all_goals
      simp only [isNF, e, ht, ht2, es]
      clear ht ht2
      go_enter Try.func67, Try.ntmps67
      go_wp2_with (first
        | (go_at_call 74; refine (there_2 p k k2 _ _ _ _ (new_cell2a _ _ _ _ _) (new_cell2b _ _ _ _ _) (HJ.out _ (HB.out _ _)) e).mono ?_; rintro e w' ⟨rfl, rfl⟩)
        | (go_at_call 81; refine (equals_i sg _ _ es).mono ?_; rintro e w' ⟨rfl, rfl⟩)
        | (go_at_call 76; refine (kind_j p k _ _ _ _ (HJ.out _ (HB.out _ _)) HV.out).mono ?_; rintro e w1 ⟨rfl, hb1⟩; have HB1 := hid (after (HB.out _ _) hb1.out (HB.out _ _).size); have HX1 := hid (lay hb1.out (HX.out _)); have hc1 := cells_at HX1.out; clear HV)
        | (go_at_call 76; refine (kind_j p k2 _ _ _ _ (HJ.out _ HB1.out) HV2.out).mono ?_; rintro e w2 ⟨rfl, hb2⟩; have HB2 := hid (after HB1.out hb2.out HB1.out.size); have HX2 := hid (lay hb2.out HX1.out); have hc2 := cells_at HX2.out))
      all_goals go_ret
      all_goals first
        | exact ⟨rfl, HB2⟩
        | exact ⟨rfl, HB1⟩
end Go.Proofs.Ytfhdiahjfnphkaa
