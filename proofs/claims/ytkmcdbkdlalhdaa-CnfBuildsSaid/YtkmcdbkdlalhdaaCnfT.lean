/- Which formulas are light, and right by the reference. Conditions: at most 200000 clauses of at most 200000 numbers. -/
import Derived.Test.YtkmcdbkdlalhdaaCnfG
namespace Go.Proofs.Ytkmcdbkdlalhdaa
open Go.RowKit Go.Maps Go.Lib Go.Sort
set_option linter.unusedVariables false
set_option linter.unusedSimpArgs false
def lightF (ls : List (List Int)) : Bool := decide (ls.length ≤ 80) && ls.all light
theorem lightF_no {ls : List (List Int)} {k : Nat} {xs : List Int} (h : ls[k]? = some xs) (e : light xs = false) : lightF ls = false := by
  have : ls.all light = false := by
    rw [List.all_eq_false]
    exact ⟨xs, List.mem_of_getElem? h, by rw [e]; simp⟩
  simp only [lightF, this, Bool.and_false]
theorem lightF_yes {ls : List (List Int)} {n : Nat} (hn : ls.length = n) (hl : n ≤ 80) (h : ∀ (j : Nat) (x : List Int), j < n → ls[j]? = some x → light x = true) : lightF ls = true := by
  have : ls.all light = true := by
    rw [List.all_eq_true]
    intro x hx
    obtain ⟨j, hj⟩ := List.getElem?_of_mem hx
    have hjl := (List.getElem?_eq_some_iff.1 hj).1
    exact h j x (by omega) hj
  simp [lightF, this, hn, hl]
theorem lightF_get {ls : List (List Int)} (h : lightF ls = true) : ls.length ≤ 80 ∧ ∀ (k : Nat) (xs : List Int), ls[k]? = some xs → light xs = true := by
  simp only [lightF, Bool.and_eq_true, decide_eq_true_eq, List.all_eq_true] at h
  exact ⟨h.1, fun k xs hx => h.2 xs (List.mem_of_getElem? hx)⟩
theorem light_i (N : Int) (ls : List (List Int)) (A : Option Addr) (n cap B : Nat) (w : World) (hB : B ≤ w.heap.size) (h : Lists w B A n ls) :
    Calls Try.prog 7 #[form N A n cap] w fun e w' => e = .returned (.bool (lightF ls)) ∧ Hid (Below w.heap.size w w') := by
  have HB1 := hid (below1 w (formO N A n cap 24))
  have HN := hid h.len
  have hc0 := cells_at (heap_alloc_new w (formO N A n cap 24))
  have HL := hid (h.below (HB1.out.mono hB))
  obtain ⟨r, HR⟩ : ∃ r, Hid (lightF ls = r) := ⟨_, hid rfl⟩
  rw [HR.out]
  clear h
  by_cases h80 : n ≤ 80
  · have h2 : ¬ 80 < (n : Int) := by omega
    obtain ⟨W, HW⟩ : ∃ W, Hid (w.alloc (formO N A n cap 24) = W) := ⟨_, hid rfl⟩
    have hx1 : ∀ i, W.cell? ⟨w.heap.size, i, none⟩ = (#[Value.int .i64 N, Value.slice A n cap] : Array Value)[i]? := by rw [← HW.out]; exact hc0
    have HLW := HL
    rw [HW.out] at HLW
    have HBW := HB1
    rw [HW.out] at HBW
    go_enter Try.func7, Try.ntmps7
    go_wp2
    rw [HW.out]
    clear hc0
    go_loopg [3] n (fun gk v5 wr => ∃ k : Nat, k ≤ n ∧ gk = n - k ∧ v5 = .int .i64 k ∧ W = wr ∧ Hid (∀ (j : Nat) (x : List Int), j < k → ls[j]? = some x → light x = true))
    case atStart => exact ⟨0, by omega, rfl, rfl, rfl, hid (fun j x hj => absurd hj (by omega))⟩
    case round =>
      obtain ⟨k, hk, rfl, rfl, rfl, HA⟩ := hrel
      by_cases hlt : k < n
      · have hlt' : (k : Int) < (n : Int) := by omega
        obtain ⟨b, off, xs, A', c', rfl, hb, hx, hc, -, -, hi⟩ := HLW.out.at_ hlt
        have HX2 := hid hx
        have HI := hid hi
        clear hx hi
        cases e1 : light xs
        case false =>
          have hf : r = false := HR.out.symm.trans (lightF_no HX2.out e1)
          subst hf
          have HE := hid e1
          clear e1
          go_wp2_with (go_at_call 18; go_must (refine (clause_i xs A' _ c' B _ HI.out).mono ?_); rw [HE.out]; rintro e w2 ⟨rfl, hw2⟩; obtain rfl := hw2.symm)
          go_ret
          exact ⟨rfl, HBW⟩
        case true =>
          have HE := hid e1
          clear e1
          go_wp2_with (go_at_call 18; go_must (refine (clause_i xs A' _ c' B _ HI.out).mono ?_); rw [HE.out]; rintro e w2 ⟨rfl, hw2⟩; obtain rfl := hw2.symm)
          go_roundg (n - (k + 1))
          case measure => omega
          case rel => exact ⟨k + 1, by omega, rfl, rfl, rfl, hid (fun j y hj hy => by
            by_cases hjk : j < k
            · exact HA.out j y hjk hy
            · obtain rfl : j = k := by omega
              rw [HX2.out] at hy; cases hy; exact HE.out)⟩
      · have hlt' : ¬ (k : Int) < (n : Int) := by omega
        obtain rfl : k = n := by omega
        have hf : r = true := HR.out.symm.trans (lightF_yes HN.out h80 HA.out)
        subst hf
        go_wp2
        go_ret
        exact ⟨rfl, HBW⟩
  · have h2 : 80 < (n : Int) := by omega
    have hf : r = false := HR.out.symm.trans (by have := HN.out; simp [lightF]; omega)
    subst hf
    go_enter Try.func7, Try.ntmps7
    go_wp2
    go_ret
    exact ⟨rfl, HB1⟩
end Go.Proofs.Ytkmcdbkdlalhdaa
