/- Which formulas are true in a model, by the program. Conditions: at most 200000 clauses of at most 200000 numbers. -/
import Derived.Test.YtkmcdbkdlalhdaaCnfG
import Derived.WalkMore
namespace Go.Proofs.Ytkmcdbkdlalhdaa
open Go.RowKit Go.Maps Go.Lib Go.Sort
set_option linter.unusedVariables false
set_option linter.unusedSimpArgs false
def evalF (N : Int) (ls : List (List Int)) (m : List Bool) : Bool := rightF N ls && (decide ((m.length : Int) = N) && ls.all (fun c => c.any (tr m)))
theorem eval_0 {N : Int} {ls : List (List Int)} {m : List Bool} (h : rightF N ls = false) : evalF N ls m = false := by simp [evalF, h]
theorem eval_1 {N : Int} {ls : List (List Int)} {m : List Bool} (h : ¬ (m.length : Int) = N) : evalF N ls m = false := by simp [evalF, h]
theorem eval_no {N : Int} {ls : List (List Int)} {m : List Bool} {k : Nat} {xs : List Int} (h : ls[k]? = some xs) (e : xs.any (tr m) = false) : evalF N ls m = false := by
  have : ls.all (fun c => c.any (tr m)) = false := by
    rw [List.all_eq_false]
    exact ⟨xs, List.mem_of_getElem? h, by rw [e]; simp⟩
  simp only [evalF, this, Bool.and_false]
theorem eval_yes {N : Int} {ls : List (List Int)} {m : List Bool} {n : Nat} (h0 : rightF N ls = true) (h1 : (m.length : Int) = N) (hn : ls.length = n) (h : ∀ (j : Nat) (x : List Int), j < n → ls[j]? = some x → x.any (tr m) = true) : evalF N ls m = true := by
  have : ls.all (fun c => c.any (tr m)) = true := by
    rw [List.all_eq_true]
    intro x hx
    obtain ⟨j, hj⟩ := List.getElem?_of_mem hx
    have hjl := (List.getElem?_eq_some_iff.1 hj).1
    exact h j x (by omega) hj
  simp [evalF, this, h0, h1]
theorem any_no {m : List Bool} {xs : List Int} {n : Nat} (hn : xs.length = n) (h : ∀ (j : Nat) (x : Int), j < n → xs[j]? = some x → tr m x = false) : xs.any (tr m) = false := by
  rw [List.any_eq_false]
  intro x hx
  obtain ⟨j, hj⟩ := List.getElem?_of_mem hx
  have hjl := (List.getElem?_eq_some_iff.1 hj).1
  rw [h j x (by omega) hj]; simp
theorem any_yes {m : List Bool} {xs : List Int} {k : Nat} {x : Int} (h : xs[k]? = some x) (e : tr m x = true) : xs.any (tr m) = true := by
  rw [List.any_eq_true]; exact ⟨x, List.mem_of_getElem? h, e⟩
theorem lit_all {N : Int} {xs : List Int} {k : Nat} {x : Int} (h : xs.all (lit N) = true) (hx : xs[k]? = some x) : lit N x = true := List.all_eq_true.1 h x (List.mem_of_getElem? hx)
/-- What the program finds of a literal in a model. -/
theorem lit_pos {w : World} {B n : Nat} {A : Option Addr} {m : List Bool} {x : Int} (h : Bools w B A n m) (hx : lit n x = true) (hp : 0 < x) :
    ∃ (p b off : Nat) (y : Bool), x = p + 1 ∧ p < n ∧ A = some ⟨b, off, none⟩ ∧ w.cell? ⟨b, off + p, none⟩ = some (.bool y) ∧ tr m x = y := by
  obtain ⟨h0, h1, h2⟩ : x ≠ 0 ∧ -(n : Int) ≤ x ∧ x ≤ n := by simpa [lit] using hx
  have hkn : (x - 1).toNat < n := by omega
  obtain ⟨b, off, y, e, hb, hy, hc⟩ := h.at_ hkn
  refine ⟨(x - 1).toNat, b, off, y, by omega, hkn, e, hc, ?_⟩
  unfold tr
  rw [if_pos hp, List.getD_eq_getElem?_getD, hy]; rfl
theorem lit_neg {w : World} {B n : Nat} {A : Option Addr} {m : List Bool} {x : Int} (h : Bools w B A n m) (hx : lit n x = true) (hp : ¬ 0 < x) :
    ∃ (p b off : Nat) (y : Bool), x = -(p : Int) - 1 ∧ p < n ∧ A = some ⟨b, off, none⟩ ∧ w.cell? ⟨b, off + p, none⟩ = some (.bool y) ∧ tr m x = !y := by
  obtain ⟨h0, h1, h2⟩ : x ≠ 0 ∧ -(n : Int) ≤ x ∧ x ≤ n := by simpa [lit] using hx
  have hkn : (-x - 1).toNat < n := by omega
  obtain ⟨b, off, y, e, hb, hy, hc⟩ := h.at_ hkn
  refine ⟨(-x - 1).toNat, b, off, y, by omega, hkn, e, hc, ?_⟩
  unfold tr
  rw [if_neg hp, List.getD_eq_getElem?_getD, hy]; rfl
set_option maxHeartbeats 2000000 in
theorem eval_i (N : Int) (ls : List (List Int)) (m : List Bool) (A A2 : Option Addr) (n cap nm cap2 B : Nat) (w : World) (hB : B ≤ w.heap.size) (h : Lists w B A n ls) (hm : Bools w B A2 nm m) (hl : n ≤ 200000) (hl2 : nm ≤ 200000) (hs : Short ls) :
    Calls Try.prog 12 #[form N A n cap, .slice A2 nm cap2] w fun e w' => e = .returned (.bool (evalF N ls m)) ∧ Hid (Below w.heap.size w w') := by
  have HB1 := hid (below1 w (formO N A n cap 29))
  have HN := hid h.len
  have HNM := hid hm.len
  have HX0 := hid (heap_alloc_new w (formO N A n cap 29))
  have hc0 := cells_at HX0.out
  have HL0 := hid (h.below (HB1.out.mono hB))
  have HM0 := hid (hm.below (HB1.out.mono hB))
  have HR9 := hid (right_i N ls A n cap B (w.alloc (formO N A n cap 29)) (Nat.le_trans hB HB1.out.size) HL0.out hl hs)
  obtain ⟨r, HR⟩ : ∃ r, Hid (evalF N ls m = r) := ⟨_, hid rfl⟩
  rw [HR.out]
  have hs0 := hid hs
  clear h hs hm
  cases e1 : rightF N ls
  case false =>
    have hf : r = false := HR.out.symm.trans (eval_0 e1)
    subst hf
    rw [e1] at HR9
    clear e1
    go_enter Try.func12, Try.ntmps12
    go_wp2
    go_step3
    go_wp2_with (go_at_call 9; refine HR9.out.mono ?_; rintro e w1 ⟨rfl, HB2⟩)
    try rw [Exit.noGoto_ret]
    go_ret
    exact ⟨rfl, hid (after HB1.out HB2.out HB1.out.size)⟩
  case true =>
    have HE := hid e1
    rw [e1] at HR9
    clear e1
    by_cases hNn : (nm : Int) = N
    · subst hNn
      go_enter Try.func12, Try.ntmps12
      go_wp2
      go_step3
      go_wp2_with (go_at_call 9; refine HR9.out.mono ?_; rintro e w1 ⟨rfl, HB2⟩; have hc1 := cells_at (old_block HB2.out (Array.getElem?_eq_some_iff.1 HX0.out).1 HX0.out))
      have HBB := hid (after HB1.out HB2.out HB1.out.size)
      have HL := hid (HL0.out.below (HB2.out.mono (Nat.le_trans hB HB1.out.size)))
      have HM := hid (HM0.out.below (HB2.out.mono (Nat.le_trans hB HB1.out.size)))
      clear HB2 HL0 HM0 hc0 HX0
      have HLit := hid (right_lit HE.out).2
      go_step3
      go_wp2
      clear hc1
      go_loopg [22] n (fun gk v5 wr => ∃ k : Nat, k ≤ n ∧ gk = n - k ∧ v5 = .int .i64 k ∧ w1 = wr ∧ Hid (∀ (j : Nat) (x : List Int), j < k → ls[j]? = some x → x.any (tr m) = true))
      case atStart => exact ⟨0, by omega, rfl, rfl, rfl, hid (fun j x hj => absurd hj (by omega))⟩
      case round =>
        obtain ⟨k, hk, rfl, rfl, rfl, HA⟩ := hrel
        by_cases hlt : k < n
        · have hlt' : (k : Int) < (n : Int) := by omega
          obtain ⟨b, off, xs, A', c', rfl, hb, hx, hc, -, -, hi⟩ := HL.out.at_ hlt
          have HX := hid hx
          have HI := hid hi
          have HLX := hid (HLit.out _ _ hx)
          obtain ⟨l, HXL⟩ : ∃ l, Hid (xs.length = l) := ⟨_, hid rfl⟩
          rw [HXL.out] at hc HI
          have hl3 : l ≤ 200000 := by have := hs0.out k xs hx; have := HXL.out; omega
          clear hx hi
          go_wp2
          clear hc
          go_loopg [28] l (fun gk v5 wr => ∃ j : Nat, j ≤ l ∧ gk = l - j ∧ v5 = .int .i64 j ∧ w1 = wr ∧ Hid (∀ (i : Nat) (x : Int), i < j → xs[i]? = some x → tr m x = false))
          case atStart => exact ⟨0, by omega, rfl, rfl, rfl, hid (fun j x hj => absurd hj (by omega))⟩
          case round =>
            obtain ⟨j, hj, rfl, rfl, rfl, HT⟩ := hrel
            by_cases hjl : j < l
            · have hjl' : (j : Int) < (l : Int) := by omega
              obtain ⟨b2, off2, x, rfl, hb2, hx, hc⟩ := HI.out.at_ hjl
              have HX2 := hid hx
              have hlx := lit_all HLX.out hx
              clear hx
              by_cases hp : 0 < x
              · obtain ⟨p, b3, off3, y, rfl, hpn, rfl, hcy, ht⟩ := lit_pos HM.out hlx hp
                have HTr := hid ht
                clear ht hlx
                have hw : IntKind.i64.wrap ((p : Int) + 1 - 1) = p := by rw [IntKind.wrap_i64]; omega
                have hpn' : (p : Int) < (nm : Int) := by omega
                cases y
                case true =>
                  go_wp2
                  go_roundg (n - (k + 1))
                  case measure => omega
                  case rel => exact ⟨k + 1, by omega, rfl, rfl, rfl, hid (fun i u hi hu => by
                    by_cases hjk : i < k
                    · exact HA.out i u hjk hu
                    · obtain rfl : i = k := by omega
                      rw [HX.out] at hu; cases hu; exact any_yes HX2.out HTr.out)⟩
                case false =>
                  go_wp2
                  go_roundg (l - (j + 1))
                  case measure => omega
                  case rel => exact ⟨j + 1, by omega, rfl, rfl, rfl, hid (fun i u hi hu => by
                    by_cases hjk : i < j
                    · exact HT.out i u hjk hu
                    · obtain rfl : i = j := by omega
                      rw [HX2.out] at hu; cases hu; exact HTr.out)⟩
              · obtain ⟨p, b3, off3, y, rfl, hpn, rfl, hcy, ht⟩ := lit_neg HM.out hlx hp
                have HTr := hid ht
                clear ht hlx
                have hw : IntKind.i64.wrap (-(-(p : Int) - 1)) = p + 1 := by rw [IntKind.wrap_i64]; omega
                have hw2 : IntKind.i64.wrap ((p : Int) + 1 - 1) = p := by rw [IntKind.wrap_i64]; omega
                have hpn' : (p : Int) < (nm : Int) := by omega
                have hng : -(p : Int) - 1 < 0 := by omega
                cases y
                case false =>
                  go_wp2
                  go_roundg (n - (k + 1))
                  case measure => omega
                  case rel => exact ⟨k + 1, by omega, rfl, rfl, rfl, hid (fun i u hi hu => by
                    by_cases hjk : i < k
                    · exact HA.out i u hjk hu
                    · obtain rfl : i = k := by omega
                      rw [HX.out] at hu; cases hu; exact any_yes HX2.out HTr.out)⟩
                case true =>
                  go_wp2
                  go_roundg (l - (j + 1))
                  case measure => omega
                  case rel => exact ⟨j + 1, by omega, rfl, rfl, rfl, hid (fun i u hi hu => by
                    by_cases hjk : i < j
                    · exact HT.out i u hjk hu
                    · obtain rfl : i = j := by omega
                      rw [HX2.out] at hu; cases hu; exact HTr.out)⟩
            · have hjl' : ¬ (j : Int) < (l : Int) := by omega
              obtain rfl : j = l := by omega
              have hf : r = false := HR.out.symm.trans (eval_no HX.out (any_no HXL.out HT.out))
              subst hf
              go_wp2
              try rw [Exit.noGoto_ret]
              go_ret
              exact ⟨rfl, HBB⟩
        · have hlt' : ¬ (k : Int) < (n : Int) := by omega
          obtain rfl : k = n := by omega
          have hf : r = true := HR.out.symm.trans (eval_yes HE.out (by rw [HNM.out]) HN.out HA.out)
          subst hf
          go_wp2
          try rw [Exit.noGoto_ret]
          go_ret
          exact ⟨rfl, HBB⟩
    · have hf : r = false := HR.out.symm.trans (eval_1 (by rw [HNM.out]; exact hNn))
      subst hf
      have hne : ((nm : Int) != N) = true := by simpa using hNn
      go_enter Try.func12, Try.ntmps12
      go_wp2
      go_step3
      go_wp2_with (go_at_call 9; refine HR9.out.mono ?_; rintro e w1 ⟨rfl, HB2⟩; have hc1 := cells_at (old_block HB2.out (Array.getElem?_eq_some_iff.1 HX0.out).1 HX0.out))
      try rw [Exit.noGoto_ret]
      go_ret
      exact ⟨rfl, hid (after HB1.out HB2.out HB1.out.size)⟩
end Go.Proofs.Ytkmcdbkdlalhdaa
