/- Which formulas are true in a model, by the reference. Conditions: at most 200000 clauses of at most 200000 numbers. -/
import Derived.Test.YtkmcdbkdlalhdaaCnfU
import Derived.Test.YtkmcdbkdlalhdaaCnfH
namespace Go.Proofs.Ytkmcdbkdlalhdaa
open Go.RowKit Go.Maps Go.Lib Go.Sort
set_option linter.unusedVariables false
set_option linter.unusedSimpArgs false
theorem any_push {m : List Bool} {xs : List Int} {j : Nat} {x : Int} (h : xs[j]? = some x) : (xs.take (j + 1)).any (tr m) = ((xs.take j).any (tr m) || tr m x) := by
  rw [List.take_add_one, h]; simp [List.any_append]
set_option maxHeartbeats 2000000 in
theorem reval_i (N : Int) (ls : List (List Int)) (m : List Bool) (A A2 : Option Addr) (n cap nm cap2 B : Nat) (w : World) (hB : B ≤ w.heap.size) (h : Lists w B A n ls) (hm : Bools w B A2 nm m) (hl : n ≤ 200000) (hl2 : nm ≤ 200000) (hs : Short ls) :
    Calls Try.prog 13 #[form N A n cap, .slice A2 nm cap2] w fun e w' => e = .returned (.bool (evalF N ls m)) ∧ Hid (Below w.heap.size w w') := by
  have HB1 := hid (below1 w (formO N A n cap 24))
  have HN := hid h.len
  have HNM := hid hm.len
  have HF0 : Hid (FIn (w.alloc (formO N A n cap 24)) w.heap.size 24 N A n cap B ls) := hid ⟨heap_alloc_new w (formO N A n cap 24), h.below (HB1.out.mono hB)⟩
  have HM0 := hid (hm.below (HB1.out.mono hB))
  have HBs := hid (Nat.le_trans hB HB1.out.size)
  have HR11 := hid (rright_i N ls A n cap B (w.alloc (formO N A n cap 24)) HBs.out HF0.out.ls hl hs)
  have HS := hid hs
  obtain ⟨r, HR⟩ : ∃ r, Hid (evalF N ls m = r) := ⟨_, hid rfl⟩
  rw [HR.out]
  clear h hs hm
  cases e1 : rightF N ls
  case false =>
    have hf : r = false := HR.out.symm.trans (eval_0 e1)
    subst hf
    rw [e1] at HR11
    clear e1
    go_enter Try.func13, Try.ntmps13
    go_wp2_with (go_at_call 11; refine HR11.out.mono ?_; rintro e w1 ⟨rfl, HB2⟩)
    go_ret
    exact ⟨rfl, hid (after HB1.out HB2.out HB1.out.size)⟩
  case true =>
    have HE := hid e1
    rw [e1] at HR11
    clear e1
    by_cases hNn : (nm : Int) = N
    · subst hNn
      have HLit := hid (right_lit HE.out).2
      go_enter Try.func13, Try.ntmps13
      go_wp2_with (go_at_call 11; refine HR11.out.mono ?_; rintro e w1 ⟨rfl, HB2⟩; have HF := hid (HF0.out.below HB2.out HBs.out); have hx1 := cells_at HF.out.box)
      have HBB := hid (after HB1.out HB2.out HB1.out.size)
      have HM := hid (HM0.out.below (HB2.out.mono HBs.out))
      clear HB2 HF0 HM0
      go_loopg [5] n (fun gk v5 wr => ∃ k : Nat, k ≤ n ∧ gk = n - k ∧ v5 = .int .i64 k ∧ w1 = wr ∧ Hid (∀ (j : Nat) (x : List Int), j < k → ls[j]? = some x → x.any (tr m) = true))
      case atStart => exact ⟨0, by omega, rfl, rfl, rfl, hid (fun j x hj => absurd hj (by omega))⟩
      case round =>
        obtain ⟨k, hk, rfl, rfl, rfl, HA⟩ := hrel
        by_cases hlt : k < n
        · have hlt' : (k : Int) < (n : Int) := by omega
          obtain ⟨b, off, xs, A', c', rfl, hb, hx, hc, -, -, hi⟩ := HF.out.ls.at_ hlt
          have HX := hid hx
          have HI := hid hi
          have HLX := hid (HLit.out _ _ hx)
          obtain ⟨l, HXL⟩ : ∃ l, Hid (xs.length = l) := ⟨_, hid rfl⟩
          rw [HXL.out] at hc HI
          have hl3 : l ≤ 200000 := by have := HS.out k xs hx; have := HXL.out; omega
          clear hx hi
          go_wp2
          go_loopg [6, 7] l (fun gk v6 v5 wr => ∃ j : Nat, j ≤ l ∧ gk = l - j ∧ v5 = .int .i64 j ∧ w1 = wr ∧ ∃ q, v6 = .bool q ∧ Hid ((xs.take j).any (tr m) = q))
          case atStart => exact ⟨0, by omega, rfl, rfl, rfl, _, rfl, hid rfl⟩
          case round =>
            obtain ⟨j, hj, rfl, rfl, rfl, q, rfl, HQ⟩ := hrel
            by_cases hjl : j < l
            · have hjl' : (j : Int) < (l : Int) := by omega
              obtain ⟨b2, off2, x, rfl, hb2, hx, hc2⟩ := HI.out.at_ hjl
              have HX2 := hid hx
              have HLT := hid (true_i x m A2 nm cap2 B w1 HM.out hl2 (lit_all HLX.out hx))
              have HP := hid (any_push (m := m) hx)
              clear hx
              cases q
              case true =>
                go_wp2
                go_roundg (l - (j + 1))
                case measure => omega
                case rel => exact ⟨j + 1, by omega, rfl, rfl, rfl, _, rfl, hid (by rw [HP.out, HQ.out]; rfl)⟩
              case false =>
                obtain ⟨y, HY⟩ : ∃ y, Hid (tr m x = y) := ⟨_, hid rfl⟩
                rw [HY.out] at HLT HP
                go_wp2_with (go_at_call 26; go_must (refine HLT.out.mono ?_); rintro e w2 ⟨rfl, hw2⟩; obtain rfl := hw2.symm; clear hw2)
                go_roundg (l - (j + 1))
                case measure => omega
                case rel => exact ⟨j + 1, by omega, rfl, rfl, rfl, _, rfl, hid (by rw [HP.out, HQ.out]; simp)⟩
            · have hjl' : ¬ (j : Int) < (l : Int) := by omega
              obtain rfl : j = l := by omega
              have HQ2 : Hid (xs.any (tr m) = q) := hid (by have := HQ.out; rwa [List.take_of_length_le (by have := HXL.out; omega)] at this)
              cases q
              case false =>
                have hf : r = false := HR.out.symm.trans (eval_no HX.out HQ2.out)
                subst hf
                go_wp2
                go_ret
                exact ⟨rfl, HBB⟩
              case true =>
                go_wp2
                go_roundg (n - (k + 1))
                case measure => omega
                case rel => exact ⟨k + 1, by omega, rfl, rfl, rfl, hid (fun i u hi hu => by
                  by_cases hjk : i < k
                  · exact HA.out i u hjk hu
                  · obtain rfl : i = k := by omega
                    rw [HX.out] at hu; cases hu; exact HQ2.out)⟩
        · have hlt' : ¬ (k : Int) < (n : Int) := by omega
          obtain rfl : k = n := by omega
          have hf : r = true := HR.out.symm.trans (eval_yes HE.out (by rw [HNM.out]) HN.out HA.out)
          subst hf
          go_wp2
          go_ret
          exact ⟨rfl, HBB⟩
    · have hf : r = false := HR.out.symm.trans (eval_1 (by rw [HNM.out]; exact hNn))
      subst hf
      have hne : ((nm : Int) != N) = true := by simpa using hNn
      go_enter Try.func13, Try.ntmps13
      go_wp2_with (go_at_call 11; refine HR11.out.mono ?_; rintro e w1 ⟨rfl, HB2⟩; have HF := hid (HF0.out.below HB2.out HBs.out); have hx1 := cells_at HF.out.box)
      go_ret
      exact ⟨rfl, hid (after HB1.out HB2.out HB1.out.size)⟩
end Go.Proofs.Ytkmcdbkdlalhdaa
