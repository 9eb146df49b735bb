/- Numbers, and what is in a list. Condition: at most 1000 numbers. -/
import Derived.Test.YtplpjckkocccfaaIrB
namespace Go.Proofs.Ytplpjckkocccfaa
open Go.RowKit Go.Maps
set_option linter.unusedVariables false
set_option linter.unusedSimpArgs false
theorem below_drewN {n : Nat} {w W : World} (h : Below n w W) (k : Nat) : Below n w (W.drewN k) := ⟨h.os, h.tape, h.output, h.size, h.block⟩
abbrev Row (W : World) (b : Nat) (xs : List Int) : Prop := ∀ (j : Nat) (x : Int), xs[j]? = some x → W.cell? ⟨b, j, none⟩ = some (.int .i64 x)
theorem has_at {xs : List Int} {k : Nat} {x q : Int} (h : xs[k]? = some x) (e : (x == q) = true) : xs.contains q = true := by
  obtain rfl : x = q := by simpa using e
  simpa using List.mem_of_getElem? h
theorem in_a (q : Int) (xs : List Int) (b cap : Nat) (r : Bool) (w : World) (h1 : Row w b xs) (hl : xs.length ≤ 1000) (hr : xs.contains q = r) :
    Calls Try.prog 20 #[.int .i64 q, .slice (some ⟨b, 0, none⟩) xs.length cap] w fun e w' => e = .returned (.bool r) ∧ w' = w := by
  obtain ⟨n, hn⟩ : ∃ n : Nat, xs.length = n := ⟨_, rfl⟩
  rw [hn] at hl ⊢
  have HR := hid hr
  have HN := hid hn
  have H1 := hid h1
  clear hr hn h1
  go_enter Try.func20, Try.ntmps20
  go_wp2
  go_loopg [5] n (fun gk v5 wr => ∃ k : Nat, k ≤ n ∧ gk = n - k ∧ v5 = .int .i64 k ∧ wr = w ∧ Hid (∀ j x, j < k → xs[j]? = some x → ¬ x = q))
  case atStart => exact ⟨0, by omega, rfl, rfl, rfl, hid (fun j x hj => absurd hj (by omega))⟩
  case round =>
    obtain ⟨k, hk, rfl, rfl, rfl, HA⟩ := hrel
    by_cases hlt : k < n
    · have hlt' : (k : Int) < (n : Int) := by omega
      obtain ⟨x, hx⟩ : ∃ x, xs[k]? = some x := ⟨_, List.getElem?_eq_getElem (by rw [HN.out]; exact hlt)⟩
      have hc := H1.out k x hx
      have HX := hid hx
      clear hx
      cases e1 : (x == q)
      case true =>
        have hf : r = true := HR.out.symm.trans (has_at HX.out e1)
        subst hf
        go_wp2
        go_ret
        exact ⟨rfl, rfl⟩
      case false =>
        go_wp2
        go_roundg (n - (k + 1))
        case measure => omega
        case rel => exact ⟨k + 1, by omega, rfl, rfl, rfl, hid (fun j y hj hy => by
          by_cases hjk : j < k
          · exact HA.out j y hjk hy
          · obtain rfl : j = k := by omega
            rw [HX.out] at hy; cases hy; simpa using e1)⟩
    · have hlt' : ¬ (k : Int) < (n : Int) := by omega
      have hf : r = false := by
        rw [← HR.out]
        cases hcc : xs.contains q with
        | false => rfl
        | true =>
          exfalso
          have hm : q ∈ xs := by simpa using hcc
          obtain ⟨j, hj⟩ := List.getElem?_of_mem hm
          have hjl := (List.getElem?_eq_some_iff.1 hj).1
          have hn := HN.out
          exact HA.out j q (by omega) hj rfl
      subst hf
      go_wp2
      go_ret
      exact ⟨rfl, rfl⟩
theorem numbers_a (xs : List Int) (b b2 cap cap2 : Nat) (w : World) (h1 : Row w b xs) (h2 : Row w b2 xs) (hl : xs.length ≤ 1000) :
    Calls Try.prog 8 #[.slice (some ⟨b, 0, none⟩) xs.length cap, .slice (some ⟨b2, 0, none⟩) xs.length cap2] w fun e w' => e = .returned (.bool true) ∧ Hid (Below w.heap.size w w') := by
  obtain ⟨n, hn⟩ : ∃ n : Nat, xs.length = n := ⟨_, rfl⟩
  rw [hn] at hl ⊢
  have HN := hid hn
  have H1 := hid h1
  have H2 := hid h2
  clear hn h1 h2
  go_enter Try.func8, Try.ntmps8
  go_wp2
  go_loopg [5] n (fun gk v5 wr => ∃ k : Nat, k ≤ n ∧ gk = n - k ∧ v5 = .int .i64 k ∧ Hid (Below w.heap.size w wr) ∧ Hid (Row wr b xs ∧ Row wr b2 xs))
  case atStart => exact ⟨0, by omega, rfl, rfl, hid (Below.refl _ _), hid ⟨H1.out, H2.out⟩⟩
  case round =>
    obtain ⟨k, hk, rfl, rfl, HB, HR⟩ := hrel
    by_cases hlt : k < n
    · have hlt' : (k : Int) < (n : Int) := by omega
      obtain ⟨x, hx⟩ : ∃ x, xs[k]? = some x := ⟨_, List.getElem?_eq_getElem (by rw [HN.out]; exact hlt)⟩
      have hc := HR.out.1 k x hx
      have hd := HR.out.2 k x hx
      clear hx
      have HBA := HB
      go_wp2
      go_quiet (fail)
      go_wp2
      go_roundg (n - (k + 1))
      case measure => omega
      case rel => exact ⟨k + 1, by omega, rfl, rfl, hid (below_drewN HBA.out _), hid ⟨fun j x h => HR.out.1 j x h, fun j x h => HR.out.2 j x h⟩⟩
    · have hlt' : ¬ (k : Int) < (n : Int) := by omega
      go_wp2
      go_ret
      exact ⟨rfl, HB.out⟩
theorem numbers_0 (a a2 : Option Addr) (cap cap2 : Nat) (w : World) :
    Calls Try.prog 8 #[.slice a 0 cap, .slice a2 0 cap2] w fun e w' => e = .returned (.bool true) ∧ Hid (Below w.heap.size w w') := by
  go_enter Try.func8, Try.ntmps8
  go_wp2
  go_loopg [5] 0 (fun gk v5 wr => gk = 0 ∧ v5 = .int .i64 0 ∧ wr = w)
  case atStart => exact ⟨rfl, rfl, rfl⟩
  case round =>
    obtain ⟨rfl, rfl, rfl⟩ := hrel
    go_wp2
    go_ret
    exact ⟨rfl, hid (Below.refl _ _)⟩
end Go.Proofs.Ytplpjckkocccfaa
