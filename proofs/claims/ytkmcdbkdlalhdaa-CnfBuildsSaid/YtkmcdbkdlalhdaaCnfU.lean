/- Which formulas are right, by the reference. Conditions: at most 200000 clauses of at most 200000 numbers. -/
import Derived.Test.YtkmcdbkdlalhdaaCnfT
namespace Go.Proofs.Ytkmcdbkdlalhdaa
open Go.RowKit Go.Maps Go.Lib Go.Sort
set_option linter.unusedVariables false
set_option linter.unusedSimpArgs false
theorem lits_no {N : Int} {xs : List Int} {k : Nat} {x : Int} (h : xs[k]? = some x) (e : lit N x = false) : xs.all (lit N) = false := by
  rw [List.all_eq_false]
  exact ⟨x, List.mem_of_getElem? h, by rw [e]; simp⟩
theorem lits_yes {N : Int} {xs : List Int} {n : Nat} (hn : xs.length = n) (h : ∀ (j : Nat) (x : Int), j < n → xs[j]? = some x → lit N x = true) : xs.all (lit N) = true := by
  rw [List.all_eq_true]
  intro x hx
  obtain ⟨j, hj⟩ := List.getElem?_of_mem hx
  have hjl := (List.getElem?_eq_some_iff.1 hj).1
  exact h j x (by omega) hj
/-- A formula's box, and its clauses, in a world. -/
structure FIn (W : World) (g t : Nat) (N : Int) (A : Option Addr) (n cap B : Nat) (ls : List (List Int)) : Prop where
  box : W.heap[g]? = some (.cells #[.int .i64 N, .slice A n cap] t (0, 0))
  ls : Lists W B A n ls
theorem FIn.below {W W' : World} {g t n cap B : Nat} {N : Int} {A : Option Addr} {ls : List (List Int)} (h : FIn W g t N A n cap B ls) (hb : Below W.heap.size W W') (hB : B ≤ W.heap.size) : FIn W' g t N A n cap B ls :=
  ⟨old_block hb (Array.getElem?_eq_some_iff.1 h.box).1 h.box, h.ls.below (hb.mono hB)⟩
theorem literal_r (N x : Int) (W : World) (r : Bool) (h0 : 0 ≤ N) (h1 : N ≤ 1000000) (e : lit N x = r) : Calls Try.prog 30 #[.int .i64 N, .int .i64 x] W fun e w' => e = .returned (.bool r) ∧ w' = W := by
  rw [← e]; exact rlit_i x N W h0 h1
set_option maxHeartbeats 1000000 in
theorem rright_i (N : Int) (ls : List (List Int)) (A : Option Addr) (n cap B : Nat) (w : World) (hB : B ≤ w.heap.size) (h : Lists w B A n ls) (hl : n ≤ 200000) (hs : Short ls) :
    Calls Try.prog 11 #[form N A n cap] w fun e w' => e = .returned (.bool (rightF N ls)) ∧ Hid (Below w.heap.size w w') := by
  have HB1 := hid (below1 w (formO N A n cap 24))
  have HN := hid h.len
  have HF0 : Hid (FIn (w.alloc (formO N A n cap 24)) w.heap.size 24 N A n cap B ls) := hid ⟨heap_alloc_new w (formO N A n cap 24), h.below (HB1.out.mono hB)⟩
  have HS := hid hs
  obtain ⟨r, HR⟩ : ∃ r, Hid (rightF N ls = r) := ⟨_, hid rfl⟩
  rw [HR.out]
  clear h hs
  by_cases h0 : N < 0
  · have hf : r = false := HR.out.symm.trans (right_neg (by omega))
    subst hf
    go_enter Try.func11, Try.ntmps11
    go_wp2
    go_ret
    exact ⟨rfl, HB1⟩
  · by_cases h1 : 100000 < N
    · have hf : r = false := HR.out.symm.trans (right_neg (by omega))
      subst hf
      go_enter Try.func11, Try.ntmps11
      go_wp2
      go_ret
      exact ⟨rfl, HB1⟩
    · have h2 : ¬ 200000 < (n : Int) := by omega
      have H0 : 0 ≤ N ∧ N ≤ 1000000 := by omega
      have HBs := hid (Nat.le_trans hB HB1.out.size)
      go_enter Try.func11, Try.ntmps11
      go_wp2
      go_loopg [3] n (fun gk v5 wr => ∃ k : Nat, k ≤ n ∧ gk = n - k ∧ v5 = .int .i64 k ∧ Hid (Below w.heap.size w wr) ∧ Hid (FIn wr w.heap.size 24 N A n cap B ls) ∧ Hid (∀ (j : Nat) (x : List Int), j < k → ls[j]? = some x → x.all (lit N) = true))
      case atStart => exact ⟨0, by omega, rfl, rfl, HB1, HF0, hid (fun j x hj => absurd hj (by omega))⟩
      case round =>
        obtain ⟨k, hk, rfl, rfl, HB, HF, HA⟩ := hrel
        have hx1 := cells_at HF.out.box
        by_cases hlt : k < n
        · have hlt' : (k : Int) < (n : Int) := by omega
          obtain ⟨b, off, xs, A', c', rfl, hb, hx, hc, -, -, hi⟩ := HF.out.ls.at_ hlt
          have HX2 := hid hx
          obtain ⟨l, HXL⟩ : ∃ l, Hid (xs.length = l) := ⟨_, hid rfl⟩
          have hl3 : l ≤ 200000 := by have := HS.out k xs hx; have := HXL.out; omega
          clear hx hi
          go_wp2
          clear hc hx1
          go_loopg [4] l (fun gk v5 wr => ∃ j : Nat, j ≤ l ∧ gk = l - j ∧ v5 = .int .i64 j ∧ Hid (Below w.heap.size w wr) ∧ Hid (FIn wr w.heap.size 24 N (some ⟨b, off, none⟩) n cap B ls) ∧ Hid (∀ (i : Nat) (x : Int), i < j → xs[i]? = some x → lit N x = true))
          case atStart => exact ⟨0, by omega, rfl, rfl, HB, HF, hid (fun j x hj => absurd hj (by omega))⟩
          case round =>
            obtain ⟨j, hj, rfl, rfl, HB2, HF2, HT⟩ := hrel
            have hx1 := cells_at HF2.out.box
            obtain ⟨b', off', xs', A2, c2, e2, hb2, hx, hc, -, -, hi⟩ := HF2.out.ls.at_ hlt
            injection e2 with e2
            injection e2 with e3 e4
            subst e3 e4
            have hxx : xs' = xs := Option.some.inj (hx.symm.trans HX2.out)
            subst hxx
            clear hx
            rw [HXL.out] at hc hi
            have HSz := hid HB2.out.size
            by_cases hjl : j < l
            · have hjl' : (j : Int) < (l : Int) := by omega
              obtain ⟨b3, off3, x, rfl, hb3, hx, hc3⟩ := hi.at_ hjl
              have HX3 := hid hx
              clear hx hi
              cases e1 : lit N x
              case false =>
                have hf : r = false := HR.out.symm.trans (right_no HX2.out (lits_no HX3.out e1))
                subst hf
                have HL1 := hid (fun W => literal_r N x W false H0.1 H0.2 e1)
                clear e1
                go_wp2
                go_quiet ((go_at_call 30; exact Calls.quiet_of_same (HL1.out _)))
                go_wp2
                go_ret
                exact ⟨rfl, hid (below_drewN HB2.out _)⟩
              case true =>
                have HE := hid e1
                have HL1 := hid (fun W => literal_r N x W true H0.1 H0.2 e1)
                clear e1
                go_wp2
                go_quiet ((go_at_call 30; exact Calls.quiet_of_same (HL1.out _)))
                go_wp2
                go_roundg (l - (j + 1))
                case measure => omega
                case rel => exact ⟨j + 1, by omega, rfl, rfl, hid (below_drewN HB2.out _), hid (HF2.out.below (below_drewN (Below.refl _ _) _) (Nat.le_trans hB HSz.out)), hid (fun i u hi hu => by
                  by_cases hjk : i < j
                  · exact HT.out i u hjk hu
                  · obtain rfl : i = j := by omega
                    rw [HX3.out] at hu; cases hu; exact HE.out)⟩
            · have hjl' : ¬ (j : Int) < (l : Int) := by omega
              obtain rfl : j = l := by omega
              have HE := hid (lits_yes HXL.out HT.out)
              clear hi
              go_wp2
              go_roundg (n - (k + 1))
              case measure => omega
              case rel => exact ⟨k + 1, by omega, rfl, rfl, HB2, HF2, hid (fun i u hi hu => by
                by_cases hjk : i < k
                · exact HA.out i u hjk hu
                · obtain rfl : i = k := by omega
                  rw [HX2.out] at hu; cases hu; exact HE.out)⟩
        · have hlt' : ¬ (k : Int) < (n : Int) := by omega
          obtain rfl : k = n := by omega
          have hf : r = true := HR.out.symm.trans (right_yes (by omega) (by omega) HN.out HA.out)
          subst hf
          go_wp2
          go_ret
          exact ⟨rfl, HB⟩
end Go.Proofs.Ytkmcdbkdlalhdaa
