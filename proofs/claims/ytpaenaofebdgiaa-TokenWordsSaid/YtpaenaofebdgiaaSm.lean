/- Are tokens the same. Condition: at most 100000 tokens. -/
import Derived.Test.YtpaenaofebdgiaaTx
namespace Go.Proofs.Ytpaenaofebdgiaa
open Go.RowKit
set_option linter.unusedVariables false
set_option linter.unusedSimpArgs false
def tkSame (x y : Tk) : Bool := x.kind == y.kind && x.tx.toList == y.tx.toList && x.num == y.num
def tksSame : List Tk → List Tk → Bool
  | [], [] => true
  | x :: r, y :: q => tkSame x y && tksSame r q
  | _, _ => false
theorem tks_len : ∀ (xs ys : List Tk), xs.length ≠ ys.length → tksSame xs ys = false
  | [], [], h => absurd rfl h
  | [], _ :: _, _ => rfl
  | _ :: _, [], _ => rfl
  | x :: r, y :: q, h => by simp only [tksSame]; rw [tks_len r q (by simpa using h), Bool.and_false]
theorem tks_no : ∀ (xs ys : List Tk) (k : Nat) (x y : Tk), xs[k]? = some x → ys[k]? = some y → tkSame x y = false → tksSame xs ys = false
  | [], _, k, x, y, h, _, _ => by simp at h
  | _ :: _, [], k, x, y, _, h, _ => by simp at h
  | a :: r, b :: q, 0, x, y, h1, h2, h => by
    simp at h1 h2; subst h1 h2; simp only [tksSame]; rw [h, Bool.false_and]
  | a :: r, b :: q, k + 1, x, y, h1, h2, h => by
    simp at h1 h2; simp only [tksSame]; rw [tks_no r q k x y h1 h2 h, Bool.and_false]
theorem tks_yes : ∀ (xs ys : List Tk), xs.length = ys.length → (∀ (k : Nat) (x y : Tk), xs[k]? = some x → ys[k]? = some y → tkSame x y = true) → tksSame xs ys = true
  | [], [], _, _ => rfl
  | [], _ :: _, h, _ => by simp at h
  | _ :: _, [], h, _ => by simp at h
  | a :: r, b :: q, hl, h => by
    simp only [tksSame]
    rw [h 0 a b rfl rfl, tks_yes r q (by simpa using hl) (fun k x y h1 h2 => h (k + 1) x y (by simpa using h1) (by simpa using h2))]; rfl
theorem same_all {xs ys : List Tk} {k : Nat} {x y : Tk} (h : ∀ i, i < k → ∀ x y, xs[i]? = some x → ys[i]? = some y → tkSame x y = true) (hx : xs[k]? = some x) (hy : ys[k]? = some y) (hs : tkSame x y = true) : ∀ i, i < k + 1 → ∀ x y, xs[i]? = some x → ys[i]? = some y → tkSame x y = true := by
  intro i hi x' y' hx' hy'
  by_cases e : i = k
  · subst e
    rw [hx] at hx'; rw [hy] at hy'
    injection hx' with e1; injection hy' with e2; subst e1 e2; exact hs
  · exact h i (by omega) x' y' hx' hy'
theorem ne_of_beq {a b : Int} (h : (a == b) = false) : (a != b) = true := by simp [bne, h]
theorem eq_of_beq' {a b : Int} (h : (a == b) = true) : (a != b) = false := by simp [bne, h]
theorem sm1 {x y : Tk} (h : (x.kind == y.kind) = false) : tkSame x y = false := by simp [tkSame, h]
theorem sm2 {x y : Tk} (h : (x.tx.toList == y.tx.toList) = false) : tkSame x y = false := by simp only [tkSame, h]; simp
theorem sm3 {x y : Tk} (h : (x.num == y.num) = false) : tkSame x y = false := by simp only [tkSame, h]; simp
theorem sm4 {x y : Tk} (h1 : (x.kind == y.kind) = true) (h2 : (x.tx.toList == y.tx.toList) = true) (h3 : (x.num == y.num) = true) : tkSame x y = true := by simp only [tkSame, h1, h2, h3]; rfl
theorem below_drewN {n : Nat} {w W : World} (h : Below n w W) (k : Nat) : Below n w (W.drewN k) := ⟨h.os, h.tape, h.output, h.size, h.block⟩
set_option maxRecDepth 100000 in
set_option maxHeartbeats 8000000 in
theorem same_i (xs ys : List Tk) (g o cap g2 o2 cap2 : Nat) (b : Bool) (w : World) (hb : tksSame xs ys = b) (hL : Lies w g o xs) (hL2 : Lies w g2 o2 ys) (hn : xs.length ≤ 100000) (hn2 : ys.length ≤ 100000) (hcap : xs.length ≤ cap) (hcap2 : ys.length ≤ cap2) (hm : cap ≤ 9223372036854775807) (hm2 : cap2 ≤ 9223372036854775807) :
    Calls Try.prog 12 #[.slice (some ⟨g, o, none⟩) xs.length cap, .slice (some ⟨g2, o2, none⟩) ys.length cap2] w fun e w' => e = .returned (.bool b) ∧ Hid (Below w.heap.size w w') := by
  have HL := hid hL
  have HL2 := hid hL2
  have HB0 := hid hb
  clear hL hL2 hb
  by_cases hlen : xs.length = ys.length
  case neg =>
    have hq : ((xs.length : Int) != (ys.length : Int)) = true := by simp; omega
    have hf : b = false := by rw [← HB0.out]; exact tks_len _ _ hlen
    subst hf
    go_enter Try.func12, Try.ntmps12
    go_wp2
    go_ret
    exact ⟨rfl, Below.refl _ _⟩
  case pos =>
    have hq : ((xs.length : Int) != (ys.length : Int)) = false := by simp; omega
    have HLN := hid hlen
    clear hlen
    go_enter Try.func12, Try.ntmps12
    go_wp2
    go_loopg [14] xs.length (fun gk v14 wr => ∃ k : Nat, k ≤ xs.length ∧ gk = xs.length - k ∧ v14 = .int .i64 k ∧ Hid (Below w.heap.size w wr) ∧ Hid (∀ i, i < k → ∀ x y, xs[i]? = some x → ys[i]? = some y → tkSame x y = true))
    case atStart => exact ⟨0, Nat.zero_le _, rfl, rfl, hid (Below.refl _ _), hid (fun i h => by omega)⟩
    case round =>
      obtain ⟨k, hk, rfl, rfl, HB, HS⟩ := hrel
      by_cases hlt : k < xs.length
      · have hlt' : (k : Int) < (xs.length : Int) := by omega
        have hlt2 : k < ys.length := by have := HLN.out; omega
        have hlt2' : (k : Int) < (ys.length : Int) := by omega
        obtain ⟨x, hx⟩ : ∃ x, xs[k]? = some x := ⟨_, List.getElem?_eq_getElem hlt⟩
        obtain ⟨y, hy⟩ : ∃ y, ys[k]? = some y := ⟨_, List.getElem?_eq_getElem hlt2⟩
        have hc := (HL.out.below HB.out).at hx
        have hd := fun o => ((HL2.out.below HB.out).below ((Below.refl wr.heap.size wr).alloc (Nat.le_refl _) o)).at hy
        obtain ⟨c0, c1, c2, c3, c4⟩ := hc
        have d0 := fun o => (hd o).1
        have d1 := fun o => (hd o).2.1
        have d2 := fun o => (hd o).2.2.1
        have HX := hid hx
        have HY := hid hy
        clear hx hy hd
        have HBA := hid ((HB.out.alloc HB.out.size (.cells #[.int .i64 x.kind, .string x.tx, .int .i64 x.num, .int .i64 x.line, .int .i64 x.col] 27)))
        cases e1 : (x.kind == y.kind)
        case false =>
          have n1 := ne_of_beq e1
          have hf : b = false := by rw [← HB0.out]; exact tks_no _ _ k x y HX.out HY.out (sm1 e1)
          subst hf
          go_wp2
          go_quiet (fail)
          go_wp2
          go_ret
          exact ⟨rfl, below_drewN HBA.out _⟩
        case true =>
          have n1 := eq_of_beq' e1
          cases e2 : (x.tx.toList == y.tx.toList)
          case false =>
            have hf : b = false := by rw [← HB0.out]; exact tks_no _ _ k x y HX.out HY.out (sm2 e2)
            subst hf
            go_wp2
            go_quiet (fail)
            go_wp2
            go_ret
            exact ⟨rfl, below_drewN HBA.out _⟩
          case true =>
            cases e3 : (x.num == y.num)
            case false =>
              have n3 := ne_of_beq e3
              have hf : b = false := by rw [← HB0.out]; exact tks_no _ _ k x y HX.out HY.out (sm3 e3)
              subst hf
              go_wp2
              go_quiet (fail)
              go_wp2
              go_ret
              exact ⟨rfl, below_drewN HBA.out _⟩
            case true =>
              have n3 := eq_of_beq' e3
              have HSS := hid (same_all HS.out HX.out HY.out (sm4 e1 e2 e3))
              go_wp2
              go_quiet (fail)
              go_wp2
              go_roundg (xs.length - (k + 1))
              case measure => omega
              case rel => exact ⟨k + 1, by omega, rfl, rfl, hid (below_drewN HBA.out _), HSS⟩
      · have hlt' : ¬ (k : Int) < (xs.length : Int) := by omega
        have hkn : k = xs.length := by omega
        have hf : b = true := by
          rw [← HB0.out]
          refine tks_yes _ _ HLN.out (fun i x y hx hy => HS.out i ?_ x y hx hy)
          rw [hkn]; exact (List.getElem?_eq_some_iff.1 hx).1
        subst hf
        clear hkn
        go_wp2
        go_ret
        exact ⟨rfl, HB.out⟩
end Go.Proofs.Ytpaenaofebdgiaa
