/- Which formulas are right, and true in a model, by the program and by the reference. Conditions: at most 200000 clauses of at most 200000 numbers. -/
import Derived.Test.YtkmcdbkdlalhdaaCnfF
namespace Go.Proofs.Ytkmcdbkdlalhdaa
open Go.RowKit Go.Maps Go.Lib Go.Sort
set_option linter.unusedVariables false
set_option linter.unusedSimpArgs false
abbrev form (N : Int) (A : Option Addr) (n cap : Nat) : Value := .agg #[.int .i64 N, .slice A n cap]
abbrev formO (N : Int) (A : Option Addr) (n cap : Nat) (t : TypeId) : Obj := .cells #[.int .i64 N, .slice A n cap] t
def rightF (N : Int) (ls : List (List Int)) : Bool := decide (0 ≤ N ∧ N ≤ 100000) && ls.all (fun c => c.all (lit N))
theorem right_neg {N : Int} {ls : List (List Int)} (h : ¬ (0 ≤ N ∧ N ≤ 100000)) : rightF N ls = false := by simp [rightF, h]
theorem right_no {N : Int} {ls : List (List Int)} {k : Nat} {xs : List Int} (h : ls[k]? = some xs) (e : xs.all (lit N) = false) : rightF N ls = false := by
  have : ls.all (fun c => c.all (lit N)) = false := by
    rw [List.all_eq_false]
    exact ⟨xs, List.mem_of_getElem? h, by rw [e]; simp⟩
  simp only [rightF, this, Bool.and_false]
theorem right_yes {N : Int} {ls : List (List Int)} {n : Nat} (h0 : 0 ≤ N) (h1 : N ≤ 100000) (hn : ls.length = n) (h : ∀ (j : Nat) (x : List Int), j < n → ls[j]? = some x → x.all (lit N) = true) : rightF N ls = true := by
  have : ls.all (fun c => c.all (lit N)) = true := by
    rw [List.all_eq_true]
    intro x hx
    obtain ⟨j, hj⟩ := List.getElem?_of_mem hx
    have hjl := (List.getElem?_eq_some_iff.1 hj).1
    exact h j x (by omega) hj
  simp [rightF, this, h0, h1]
theorem right_lit {N : Int} {ls : List (List Int)} (h : rightF N ls = true) : (0 ≤ N ∧ N ≤ 100000) ∧ ∀ (j : Nat) (x : List Int), ls[j]? = some x → x.all (lit N) = true := by
  simp only [rightF, Bool.and_eq_true, decide_eq_true_eq, List.all_eq_true] at h
  exact ⟨h.1, fun j x hj => List.all_eq_true.2 (h.2 x (List.mem_of_getElem? hj))⟩
def Short (ls : List (List Int)) : Prop := ∀ (k : Nat) (xs : List Int), ls[k]? = some xs → xs.length ≤ 200000
theorem right_i (N : Int) (ls : List (List Int)) (A : Option Addr) (n cap B : Nat) (w : World) (hB : B ≤ w.heap.size) (h : Lists w B A n ls) (hl : n ≤ 200000) (hs : Short ls) :
    Calls Try.prog 9 #[form N A n cap] w fun e w' => e = .returned (.bool (rightF N ls)) ∧ Hid (Below w.heap.size w w') := by
  have HB1 := hid (below1 w (formO N A n cap 29))
  have HN := hid h.len
  have HX0 := hid (heap_alloc_new w (formO N A n cap 29))
  have HL0 := hid (h.below (HB1.out.mono hB))
  have HS := hid hs
  obtain ⟨r, HR⟩ : ∃ r, Hid (rightF N ls = r) := ⟨_, hid rfl⟩
  rw [HR.out]
  clear h hs
  by_cases h0 : N < 0
  · have hf : r = false := HR.out.symm.trans (right_neg (by omega))
    subst hf
    go_enter Try.func9, Try.ntmps9
    go_wp2
    go_ret
    exact ⟨rfl, HB1⟩
  · by_cases h1 : 100000 < N
    · have hf : r = false := HR.out.symm.trans (right_neg (by omega))
      subst hf
      go_enter Try.func9, Try.ntmps9
      go_wp2
      go_ret
      exact ⟨rfl, HB1⟩
    · have h2 : ¬ 200000 < (n : Int) := by omega
      have H0 : 0 ≤ N ∧ N ≤ 1000000 := by omega
      go_enter Try.func9, Try.ntmps9
      go_wp2
      go_loopg [22] n (fun gk v5 wr => ∃ k : Nat, k ≤ n ∧ gk = n - k ∧ v5 = .int .i64 k ∧ Hid (Below w.heap.size w wr) ∧ Hid (wr.heap[w.heap.size]? = some (.cells #[.int .i64 N, .slice A n cap] 29 (0, 0))) ∧ Hid (Lists wr B A n ls) ∧ Hid (∀ (j : Nat) (x : List Int), j < k → ls[j]? = some x → x.all (lit N) = true))
      case atStart => exact ⟨0, by omega, rfl, rfl, HB1, HX0, HL0, hid (fun j x hj => absurd hj (by omega))⟩
      case round =>
        obtain ⟨k, hk, rfl, rfl, HB, HX, HL, HA⟩ := hrel
        by_cases hlt : k < n
        · have hlt' : (k : Int) < (n : Int) := by omega
          obtain ⟨b, off, xs, A', c', rfl, hb, hx, hc, -, -, hi⟩ := HL.out.at_ hlt
          have HX2 := hid hx
          have HI := hid hi
          have HLen := hid (HS.out _ _ hx)
          have hx1 := cells_at HX.out
          clear hx hi
          cases e1 : xs.all (lit N)
          case false =>
            have hf : r = false := HR.out.symm.trans (right_no HX2.out e1)
            subst hf
            have HE := hid e1
            clear e1
            go_wp2_with (go_at_call 29; go_must (refine (literals_i N xs A' _ c' B _ H0.1 H0.2 (Nat.le_trans hB HB.out.size) HI.out HLen.out).mono ?_); rw [HE.out]; rintro e w2 ⟨rfl, HB2⟩)
            go_ret
            exact ⟨rfl, hid (after HB.out HB2.out HB.out.size)⟩
          case true =>
            have HE := hid e1
            clear e1
            go_wp2_with (go_at_call 29; go_must (refine (literals_i N xs A' _ c' B _ H0.1 H0.2 (Nat.le_trans hB HB.out.size) HI.out HLen.out).mono ?_); rw [HE.out]; rintro e w2 ⟨rfl, HB2⟩)
            go_roundg (n - (k + 1))
            case measure => omega
            case rel => exact ⟨k + 1, by omega, rfl, rfl, hid (after HB.out HB2.out HB.out.size), hid (old_block HB2.out (Array.getElem?_eq_some_iff.1 HX.out).1 HX.out), hid (HL.out.below (HB2.out.mono (Nat.le_trans hB HB.out.size))), hid (fun j y hj hy => by
              by_cases hjk : j < k
              · exact HA.out j y hjk hy
              · obtain rfl : j = k := by omega
                rw [HX2.out] at hy; cases hy; exact HE.out)⟩
        · have hlt' : ¬ (k : Int) < (n : Int) := by omega
          obtain rfl : k = n := by omega
          have hf : r = true := HR.out.symm.trans (right_yes (by omega) (by omega) HN.out HA.out)
          subst hf
          go_wp2
          go_ret
          exact ⟨rfl, HB⟩
end Go.Proofs.Ytkmcdbkdlalhdaa
