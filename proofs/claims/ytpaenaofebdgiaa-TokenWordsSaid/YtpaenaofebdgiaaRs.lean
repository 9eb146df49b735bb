/- The reference of layer 1: which tokens are the same; slices without an element. Condition: at most 100000 tokens. -/
import Derived.Test.YtpaenaofebdgiaaRt
namespace Go.Proofs.Ytpaenaofebdgiaa
open Go.RowKit
set_option linter.unusedVariables false
set_option linter.unusedSimpArgs false
set_option maxRecDepth 100000 in
set_option maxHeartbeats 8000000 in
theorem rsame_i (xs ys : List Tk) (g o cap g2 o2 cap2 : Nat) (b : Bool) (w : World) (hb : tksSame xs ys = b) (hL : Lies w g o xs) (hL2 : Lies w g2 o2 ys) (hn : xs.length ≤ 100000) (hn2 : ys.length ≤ 100000) (hcap : xs.length ≤ cap) (hcap2 : ys.length ≤ cap2) (hm : cap ≤ 9223372036854775807) (hm2 : cap2 ≤ 9223372036854775807) :
    Calls Try.prog 13 #[.slice (some ⟨g, o, none⟩) xs.length cap, .slice (some ⟨g2, o2, none⟩) ys.length cap2] w fun e w' => e = .returned (.bool b) ∧ Hid (Below w.heap.size w w') := by
  have HL := hid hL
  have HL2 := hid hL2
  have HB0 := hid hb
  clear hL hL2 hb
  by_cases hlen : xs.length = ys.length
  case neg =>
    have hq : ((xs.length : Int) != (ys.length : Int)) = true := by simp; omega
    have hf : b = false := by rw [← HB0.out]; exact tks_len _ _ hlen
    subst hf
    go_enter Try.func13, Try.ntmps13
    go_wp2
    go_ret
    exact ⟨rfl, Below.refl _ _⟩
  case pos =>
    have hq : ((xs.length : Int) != (ys.length : Int)) = false := by simp; omega
    have HLN := hid hlen
    clear hlen
    go_enter Try.func13, Try.ntmps13
    go_wp2
    go_loopg [5] xs.length (fun gk v5 wr => ∃ k : Nat, k ≤ xs.length ∧ gk = xs.length - k ∧ v5 = .int .i64 k ∧ Hid (Below w.heap.size w wr) ∧ Hid (∀ i, i < k → ∀ x y, xs[i]? = some x → ys[i]? = some y → tkSame x y = true))
    case atStart => exact ⟨0, Nat.zero_le _, rfl, rfl, hid (Below.refl _ _), hid (fun i h => by omega)⟩
    case round =>
      obtain ⟨k, hk, rfl, rfl, HB, HS⟩ := hrel
      by_cases hlt : k < xs.length
      · have hlt' : (k : Int) < (xs.length : Int) := by omega
        have hlt2 : k < ys.length := by have := HLN.out; omega
        have hlt2' : (k : Int) < (ys.length : Int) := by omega
        obtain ⟨x, hx⟩ : ∃ x, xs[k]? = some x := ⟨_, List.getElem?_eq_getElem hlt⟩
        obtain ⟨y, hy⟩ : ∃ y, ys[k]? = some y := ⟨_, List.getElem?_eq_getElem hlt2⟩
        have hc := (HL.out.below HB.out).at hx
        obtain ⟨c0, c1, c2, -, -⟩ := hc
        obtain ⟨d0, d1, d2, -, -⟩ := (HL2.out.below HB.out).at hy
        have HX := hid hx
        have HY := hid hy
        clear hx hy
        have HBA := HB
        cases e1 : (x.kind == y.kind)
        case false =>
          have n1 := ne_of_beq e1
          have hf : b = false := by rw [← HB0.out]; exact tks_no _ _ k x y HX.out HY.out (sm1 e1)
          subst hf
          go_wp2
          go_quiet (fail)
          go_wp2
          go_ret
          exact ⟨rfl, below_drewN HBA.out _⟩
        case true =>
          have n1 := eq_of_beq' e1
          cases e2 : (x.tx.toList == y.tx.toList)
          case false =>
            have hf : b = false := by rw [← HB0.out]; exact tks_no _ _ k x y HX.out HY.out (sm2 e2)
            subst hf
            go_wp2
            go_quiet (fail)
            go_wp2
            go_ret
            exact ⟨rfl, below_drewN HBA.out _⟩
          case true =>
            cases e3 : (x.num == y.num)
            case false =>
              have n3 := ne_of_beq e3
              have hf : b = false := by rw [← HB0.out]; exact tks_no _ _ k x y HX.out HY.out (sm3 e3)
              subst hf
              go_wp2
              go_quiet (fail)
              go_wp2
              go_ret
              exact ⟨rfl, below_drewN HBA.out _⟩
            case true =>
              have n3 := eq_of_beq' e3
              have HSS := hid (same_all HS.out HX.out HY.out (sm4 e1 e2 e3))
              go_wp2
              go_quiet (fail)
              go_wp2
              go_roundg (xs.length - (k + 1))
              case measure => omega
              case rel => exact ⟨k + 1, by omega, rfl, rfl, hid (below_drewN HBA.out _), HSS⟩
      · have hlt' : ¬ (k : Int) < (xs.length : Int) := by omega
        have hkn : k = xs.length := by omega
        have hf : b = true := by
          rw [← HB0.out]
          refine tks_yes _ _ HLN.out (fun i x y hx hy => HS.out i ?_ x y hx hy)
          rw [hkn]; exact (List.getElem?_eq_some_iff.1 hx).1
        subst hf
        clear hkn
        go_wp2
        go_ret
        exact ⟨rfl, HB.out⟩
theorem same_ne (ao ao2 : Option Addr) (n cap n2 cap2 : Nat) (w : World) (h : n ≠ n2) :
    Calls Try.prog 12 #[.slice ao n cap, .slice ao2 n2 cap2] w fun e w' => e = .returned (.bool false) ∧ Hid (Below w.heap.size w w') := by
  have hq : ((n : Int) != (n2 : Int)) = true := by simp; omega
  go_enter Try.func12, Try.ntmps12
  go_wp2
  go_ret
  exact ⟨rfl, Below.refl _ _⟩
theorem same_00 (ao ao2 : Option Addr) (cap cap2 : Nat) (w : World) :
    Calls Try.prog 12 #[.slice ao 0 cap, .slice ao2 0 cap2] w fun e w' => e = .returned (.bool true) ∧ Hid (Below w.heap.size w w') := by
  go_enter Try.func12, Try.ntmps12
  go_wp2
  go_loopg [14] 0 (fun gk v wr => gk = 0 ∧ v = .int .i64 0 ∧ wr = w)
  case atStart => exact ⟨rfl, rfl, rfl⟩
  case round =>
    obtain ⟨rfl, rfl, rfl⟩ := hrel
    go_wp2
    go_ret
    exact ⟨rfl, Below.refl _ _⟩
theorem rsame_ne (ao ao2 : Option Addr) (n cap n2 cap2 : Nat) (w : World) (h : n ≠ n2) :
    Calls Try.prog 13 #[.slice ao n cap, .slice ao2 n2 cap2] w fun e w' => e = .returned (.bool false) ∧ Hid (Below w.heap.size w w') := by
  have hq : ((n : Int) != (n2 : Int)) = true := by simp; omega
  go_enter Try.func13, Try.ntmps13
  go_wp2
  go_ret
  exact ⟨rfl, Below.refl _ _⟩
theorem rsame_00 (ao ao2 : Option Addr) (cap cap2 : Nat) (w : World) :
    Calls Try.prog 13 #[.slice ao 0 cap, .slice ao2 0 cap2] w fun e w' => e = .returned (.bool true) ∧ Hid (Below w.heap.size w w') := by
  go_enter Try.func13, Try.ntmps13
  go_wp2
  go_loopg [5] 0 (fun gk v wr => gk = 0 ∧ v = .int .i64 0 ∧ wr = w)
  case atStart => exact ⟨rfl, rfl, rfl⟩
  case round =>
    obtain ⟨rfl, rfl, rfl⟩ := hrel
    go_wp2
    go_ret
    exact ⟨rfl, Below.refl _ _⟩
/-- A slice of tokens, nil or not. -/
def LiesA (w : World) (ao : Option Addr) (xs : List Tk) : Prop := xs = [] ∨ ∃ g o, ao = some ⟨g, o, none⟩ ∧ Lies w g o xs
theorem LiesA.below {w W : World} {ao : Option Addr} {xs : List Tk} (h : LiesA w ao xs) (hb : Below w.heap.size w W) : LiesA W ao xs := by
  rcases h with h | ⟨g, o, h1, h2⟩
  · exact .inl h
  · exact .inr ⟨g, o, h1, h2.below hb⟩
theorem text_a (xs : List Tk) (ao : Option Addr) (cap : Nat) (w : World) (hL : LiesA w ao xs) (hn : xs.length ≤ 30) (hcap : xs.length ≤ cap) (hmax : cap ≤ 9223372036854775807) (hlen : (textK xs).length ≤ 140737488355328) {t : ByteArray} (ht : t = ⟨⟨textK xs⟩⟩) :
    Calls Try.prog 10 #[.slice ao xs.length cap] w fun e w' => e = .returned (.string t) ∧ Hid (Below w.heap.size w w') := by
  subst ht
  rcases hL with rfl | ⟨g, o, rfl, h⟩
  · exact text_nil ao cap w
  · exact text_i xs g o cap w h (by omega) hcap hmax hlen
theorem rtext_a (xs : List Tk) (ao : Option Addr) (cap : Nat) (w : World) (hL : LiesA w ao xs) (hn : xs.length ≤ 30) (hcap : xs.length ≤ cap) (hmax : cap ≤ 9223372036854775807) (hz : ∀ x ∈ xs, x.tx.size ≤ 1000) {t : ByteArray} (ht : t = ⟨⟨textK xs⟩⟩) :
    Calls Try.prog 11 #[.slice ao xs.length cap] w fun e w' => e = .returned (.string t) ∧ w = w' := by
  subst ht
  rcases hL with rfl | ⟨g, o, rfl, h⟩
  · exact rtext_nil ao cap w
  · exact rtext_i xs g o cap w h (by omega) hcap hmax hz
theorem same_a (xs ys : List Tk) (ao ao2 : Option Addr) (cap cap2 : Nat) (b : Bool) (w : World) (hb : tksSame xs ys = b) (hL : LiesA w ao xs) (hL2 : LiesA w ao2 ys) (hn : xs.length ≤ 30) (hn2 : ys.length ≤ 30) (hcap : xs.length ≤ cap) (hcap2 : ys.length ≤ cap2) (hm : cap ≤ 9223372036854775807) (hm2 : cap2 ≤ 9223372036854775807) :
    Calls Try.prog 12 #[.slice ao xs.length cap, .slice ao2 ys.length cap2] w fun e w' => e = .returned (.bool b) ∧ Hid (Below w.heap.size w w') := by
  by_cases hl : xs.length = ys.length
  · rcases hL with rfl | ⟨g, o, rfl, h⟩
    · have : ys = [] := List.eq_nil_of_length_eq_zero hl.symm
      subst this
      subst hb
      exact same_00 ao ao2 cap cap2 w
    · rcases hL2 with rfl | ⟨g2, o2, rfl, h2⟩
      · have : xs = [] := List.eq_nil_of_length_eq_zero hl
        subst this
        subst hb
        exact same_00 _ ao2 cap cap2 w
      · exact same_i xs ys g o cap g2 o2 cap2 b w hb h h2 (by omega) (by omega) hcap hcap2 hm hm2
  · rw [tks_len _ _ hl] at hb
    subst hb
    exact same_ne ao ao2 _ cap _ cap2 w hl
theorem rsame_a (xs ys : List Tk) (ao ao2 : Option Addr) (cap cap2 : Nat) (b : Bool) (w : World) (hb : tksSame xs ys = b) (hL : LiesA w ao xs) (hL2 : LiesA w ao2 ys) (hn : xs.length ≤ 30) (hn2 : ys.length ≤ 30) (hcap : xs.length ≤ cap) (hcap2 : ys.length ≤ cap2) (hm : cap ≤ 9223372036854775807) (hm2 : cap2 ≤ 9223372036854775807) :
    Calls Try.prog 13 #[.slice ao xs.length cap, .slice ao2 ys.length cap2] w fun e w' => e = .returned (.bool b) ∧ Hid (Below w.heap.size w w') := by
  by_cases hl : xs.length = ys.length
  · rcases hL with rfl | ⟨g, o, rfl, h⟩
    · have : ys = [] := List.eq_nil_of_length_eq_zero hl.symm
      subst this
      subst hb
      exact rsame_00 ao ao2 cap cap2 w
    · rcases hL2 with rfl | ⟨g2, o2, rfl, h2⟩
      · have : xs = [] := List.eq_nil_of_length_eq_zero hl
        subst this
        subst hb
        exact rsame_00 _ ao2 cap cap2 w
      · exact rsame_i xs ys g o cap g2 o2 cap2 b w hb h h2 (by omega) (by omega) hcap hcap2 hm hm2
  · rw [tks_len _ _ hl] at hb
    subst hb
    exact rsame_ne ao ao2 _ cap _ cap2 w hl
end Go.Proofs.Ytpaenaofebdgiaa
