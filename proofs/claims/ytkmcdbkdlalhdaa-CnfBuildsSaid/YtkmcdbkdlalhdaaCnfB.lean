/- Literals, what a clause has, truths of literals, which lists are the same. Conditions: lists of at most 200000 numbers, numbers that are small. -/
import Derived.Test.YtkmcdbkdlalhdaaCnfA
namespace Go.Proofs.Ytkmcdbkdlalhdaa
open Go.RowKit Go.Maps
set_option linter.unusedVariables false
set_option linter.unusedSimpArgs false
/-- Is l a literal of one of n variables? -/
def lit (n l : Int) : Bool := decide (l ≠ 0 ∧ -n ≤ l ∧ l ≤ n)
theorem lit_0 (n : Int) : lit n 0 = false := by simp [lit]
theorem literal_i (l n : Int) (w : World) (h0 : 0 ≤ n) (h1 : n ≤ 1000000) : Calls Try.prog 32 #[.int .i64 l, .int .i64 n] w fun e w' => e = .returned (.bool (lit n l)) ∧ w' = w := by
  cases e0 : (l == 0)
  case true =>
    have hl : l = 0 := by simpa using e0
    subst hl
    rw [lit_0]
    clear e0
    go_enter Try.func32, Try.ntmps32
    go_wp2
    go_ret
    exact ⟨rfl, rfl⟩
  case false =>
    have hl : ¬ l = 0 := by simpa using e0
    have e0' : (l != 0) = true := by simpa using hl
    have hw : IntKind.i64.wrap (-n) = -n := by rw [IntKind.wrap_i64]; omega
    by_cases h2 : -n ≤ l
    · by_cases h3 : l ≤ n
      · have hf : lit n l = true := by simp [lit, hl, h2, h3]
        rw [hf]
        clear hf
        go_enter Try.func32, Try.ntmps32
        go_wp2
        go_ret
        exact ⟨rfl, rfl⟩
      · have hf : lit n l = false := by simp [lit, h3]
        rw [hf]
        clear hf
        go_enter Try.func32, Try.ntmps32
        go_wp2
        go_ret
        exact ⟨rfl, rfl⟩
    · have hf : lit n l = false := by simp [lit, h2]
      rw [hf]
      clear hf
      go_enter Try.func32, Try.ntmps32
      go_wp2
      go_ret
      exact ⟨rfl, rfl⟩
theorem rlit_i (l n : Int) (w : World) (h0 : 0 ≤ n) (h1 : n ≤ 1000000) : Calls Try.prog 30 #[.int .i64 n, .int .i64 l] w fun e w' => e = .returned (.bool (lit n l)) ∧ w' = w := by
  cases e0 : (l == 0)
  case true =>
    have hl : l = 0 := by simpa using e0
    subst hl
    rw [lit_0]
    clear e0
    go_enter Try.func30, Try.ntmps30
    go_wp2
    go_ret
    exact ⟨rfl, rfl⟩
  case false =>
    have hl : ¬ l = 0 := by simpa using e0
    have e0' : (l != 0) = true := by simpa using hl
    have hw : IntKind.i64.wrap (-n) = -n := by rw [IntKind.wrap_i64]; omega
    by_cases h2 : -n ≤ l
    · by_cases h3 : l ≤ n
      · have hf : lit n l = true := by simp [lit, hl, h2, h3]
        rw [hf]
        clear hf
        go_enter Try.func30, Try.ntmps30
        go_wp2
        go_ret
        exact ⟨rfl, rfl⟩
      · have hf : lit n l = false := by simp [lit, h3]
        rw [hf]
        clear hf
        go_enter Try.func30, Try.ntmps30
        go_wp2
        go_ret
        exact ⟨rfl, rfl⟩
    · have hf : lit n l = false := by simp [lit, h2]
      rw [hf]
      clear hf
      by_cases h3 : l ≤ n
      · go_enter Try.func30, Try.ntmps30
        go_wp2
        go_ret
        exact ⟨rfl, rfl⟩
      · go_enter Try.func30, Try.ntmps30
        go_wp2
        go_ret
        exact ⟨rfl, rfl⟩
theorem has_yes {xs : List Int} {k : Nat} {x q : Int} (h : xs[k]? = some x) (e : (x == q) = true) : xs.contains q = true := by
  obtain rfl : x = q := by simpa using e
  simpa using List.mem_of_getElem? h
theorem has_no {xs : List Int} {n : Nat} {q : Int} (hn : xs.length = n) (h : ∀ (j : Nat) (x : Int), j < n → xs[j]? = some x → ¬ x = q) : xs.contains q = false := by
  cases hcc : xs.contains q with
  | false => rfl
  | true =>
    exfalso
    have hm : q ∈ xs := by simpa using hcc
    obtain ⟨j, hj⟩ := List.getElem?_of_mem hm
    have hjl := (List.getElem?_eq_some_iff.1 hj).1
    exact h j q (by omega) hj rfl
theorem has_i (q : Int) (xs : List Int) (A : Option Addr) (n cap B : Nat) (w : World) (h : Ints w B A n xs) (hl : n ≤ 200000) :
    Calls Try.prog 36 #[.slice A n cap, .int .i64 q] w fun e w' => e = .returned (.bool (xs.contains q)) ∧ w' = w := by
  obtain ⟨r, HR⟩ : ∃ r, Hid (xs.contains q = r) := ⟨_, hid rfl⟩
  rw [HR.out]
  have HN := hid h.len
  have H1 := hid h
  clear h
  go_enter Try.func36, Try.ntmps36
  go_wp2
  go_loopg [5] n (fun gk v5 wr => ∃ k : Nat, k ≤ n ∧ gk = n - k ∧ v5 = .int .i64 k ∧ wr = w ∧ Hid (∀ (j : Nat) (x : Int), j < k → xs[j]? = some x → ¬ x = q))
  case atStart => exact ⟨0, by omega, rfl, rfl, rfl, hid (fun j x hj => absurd hj (by omega))⟩
  case round =>
    obtain ⟨k, hk, rfl, rfl, rfl, HA⟩ := hrel
    by_cases hlt : k < n
    · have hlt' : (k : Int) < (n : Int) := by omega
      obtain ⟨b, off, x, rfl, hb, hx, hc⟩ := H1.out.at_ hlt
      have HX := hid hx
      clear hx
      cases e1 : (x == q)
      case true =>
        have hf : r = true := HR.out.symm.trans (has_yes HX.out e1)
        subst hf
        go_wp2
        go_ret
        exact ⟨rfl, rfl⟩
      case false =>
        go_wp2
        go_roundg (n - (k + 1))
        case measure => omega
        case rel => exact ⟨k + 1, by omega, rfl, rfl, rfl, hid (fun j y hj hy => by
          by_cases hjk : j < k
          · exact HA.out j y hjk hy
          · obtain rfl : j = k := by omega
            rw [HX.out] at hy; cases hy; simpa using e1)⟩
    · have hlt' : ¬ (k : Int) < (n : Int) := by omega
      obtain rfl : k = n := by omega
      have hf : r = false := HR.out.symm.trans (has_no HN.out HA.out)
      subst hf
      go_wp2
      go_ret
      exact ⟨rfl, rfl⟩
/-- Lists that are the same. -/
theorem numbers_t (xs : List Int) (A A2 : Option Addr) (n cap cap2 B B2 : Nat) (w : World) (h1 : Ints w B A n xs) (h2 : Ints w B2 A2 n xs) (hl : n ≤ 200000) :
    Calls Try.prog 28 #[.slice A n cap, .slice A2 n cap2] w fun e w' => e = .returned (.bool true) ∧ Hid (Below w.heap.size w w') := by
  have HN := hid h1.len
  have H1 := hid h1
  have H2 := hid h2
  clear h1 h2
  go_enter Try.func28, Try.ntmps28
  go_wp2
  go_loopg [5] n (fun gk v5 wr => ∃ k : Nat, k ≤ n ∧ gk = n - k ∧ v5 = .int .i64 k ∧ ∃ q, wr = w.drewN q)
  case atStart => exact ⟨0, by omega, rfl, rfl, 0, rfl⟩
  case round =>
    obtain ⟨k, hk, rfl, rfl, q, rfl⟩ := hrel
    by_cases hlt : k < n
    · have hlt' : (k : Int) < (n : Int) := by omega
      obtain ⟨b, off, x, rfl, hb, hx, hc⟩ := H1.out.at_ hlt
      obtain ⟨b2, off2, x2, rfl, hb2, hx2, hc2⟩ := H2.out.at_ hlt
      have hxx : x2 = x := Option.some.inj (hx2.symm.trans hx)
      subst hxx
      clear hx hx2
      go_wp2
      go_quiet (fail)
      go_wp2
      go_roundg (n - (k + 1))
      case measure => omega
      case rel => exact ⟨k + 1, by omega, rfl, rfl, _, rfl⟩
    · have hlt' : ¬ (k : Int) < (n : Int) := by omega
      go_wp2
      go_ret
      exact ⟨rfl, hid (below_drewN (Below.refl _ _) _)⟩
/-- Is a literal true? -/
def tr (m : List Bool) (x : Int) : Bool := if 0 < x then m.getD (x - 1).toNat false else !(m.getD (-x - 1).toNat false)
theorem true_i (x : Int) (m : List Bool) (A : Option Addr) (n cap B : Nat) (w : World) (h : Bools w B A n m) (hl : n ≤ 200000) (hx : lit n x = true) :
    Calls Try.prog 26 #[.int .i64 x, .slice A n cap] w fun e w' => e = .returned (.bool (tr m x)) ∧ w' = w := by
  obtain ⟨h0, h1, h2⟩ : x ≠ 0 ∧ -(n : Int) ≤ x ∧ x ≤ n := by simpa [lit] using hx
  by_cases hp : 0 < x
  · obtain ⟨k, hk⟩ : ∃ k : Nat, x = k + 1 := ⟨(x - 1).toNat, by omega⟩
    subst hk
    have hkn : k < n := by omega
    obtain ⟨b, off, y, rfl, hb, hy, hc⟩ := h.at_ hkn
    have hf : tr m ((k : Int) + 1) = y := by
      unfold tr
      rw [if_pos hp, show ((k : Int) + 1 - 1).toNat = k by omega, List.getD_eq_getElem?_getD, hy]; rfl
    rw [hf]
    have hw : IntKind.i64.wrap ((k : Int) + 1 - 1) = k := by rw [IntKind.wrap_i64]; omega
    have hkn' : (k : Int) < (n : Int) := by omega
    clear hf hx hy h
    go_enter Try.func26, Try.ntmps26
    go_wp2
    go_ret
    exact ⟨rfl, rfl⟩
  · obtain ⟨k, hk⟩ : ∃ k : Nat, x = -(k : Int) - 1 := ⟨(-x - 1).toNat, by omega⟩
    subst hk
    have hkn : k < n := by omega
    obtain ⟨b, off, y, rfl, hb, hy, hc⟩ := h.at_ hkn
    have hf : tr m (-(k : Int) - 1) = !y := by
      unfold tr
      rw [if_neg hp, show (-(-(k : Int) - 1) - 1).toNat = k by omega, List.getD_eq_getElem?_getD, hy]; rfl
    rw [hf]
    have hw : IntKind.i64.wrap (-(-(k : Int) - 1)) = k + 1 := by rw [IntKind.wrap_i64]; omega
    have hw2 : IntKind.i64.wrap ((k : Int) + 1 - 1) = k := by rw [IntKind.wrap_i64]; omega
    have hkn' : (k : Int) < (n : Int) := by omega
    clear hf hx hy h
    go_enter Try.func26, Try.ntmps26
    go_wp2
    go_ret
    exact ⟨rfl, rfl⟩
/-- Is a clause light? -/
def small (x : Int) : Bool := decide (-1000000 ≤ x ∧ x ≤ 1000000)
def light (xs : List Int) : Bool := decide (xs.length ≤ 60) && xs.all small
theorem light_no {xs : List Int} {k : Nat} {x : Int} (h : xs[k]? = some x) (e : small x = false) : light xs = false := by
  have : xs.all small = false := by
    rw [List.all_eq_false]
    exact ⟨x, List.mem_of_getElem? h, by simp [e]⟩
  simp [light, this]
theorem light_yes {xs : List Int} {n : Nat} (hn : xs.length = n) (hl : n ≤ 60) (h : ∀ (j : Nat) (x : Int), j < n → xs[j]? = some x → small x = true) : light xs = true := by
  have : xs.all small = true := by
    rw [List.all_eq_true]
    intro x hx
    obtain ⟨j, hj⟩ := List.getElem?_of_mem hx
    have hjl := (List.getElem?_eq_some_iff.1 hj).1
    exact h j x (by omega) hj
  simp [light, this, hn, hl]
theorem clause_i (xs : List Int) (A : Option Addr) (n cap B : Nat) (w : World) (h : Ints w B A n xs) :
    Calls Try.prog 18 #[.slice A n cap] w fun e w' => e = .returned (.bool (light xs)) ∧ w' = w := by
  obtain ⟨r, HR⟩ : ∃ r, Hid (light xs = r) := ⟨_, hid rfl⟩
  rw [HR.out]
  have HN := hid h.len
  have H1 := hid h
  clear h
  by_cases h60 : n ≤ 60
  · have h60' : ¬ 60 < (n : Int) := by omega
    go_enter Try.func18, Try.ntmps18
    go_wp2
    go_loopg [3] n (fun gk v5 wr => ∃ k : Nat, k ≤ n ∧ gk = n - k ∧ v5 = .int .i64 k ∧ wr = w ∧ Hid (∀ (j : Nat) (x : Int), j < k → xs[j]? = some x → small x = true))
    case atStart => exact ⟨0, by omega, rfl, rfl, rfl, hid (fun j x hj => absurd hj (by omega))⟩
    case round =>
      obtain ⟨k, hk, rfl, rfl, rfl, HA⟩ := hrel
      by_cases hlt : k < n
      · have hlt' : (k : Int) < (n : Int) := by omega
        obtain ⟨b, off, x, rfl, hb, hx, hc⟩ := H1.out.at_ hlt
        have HX := hid hx
        clear hx
        by_cases e1 : x < -1000000
        · have hf : r = false := HR.out.symm.trans (light_no HX.out (by simp [small]; omega))
          subst hf
          go_wp2
          go_ret
          exact ⟨rfl, rfl⟩
        · by_cases e2 : 1000000 < x
          · have hf : r = false := HR.out.symm.trans (light_no HX.out (by simp [small]; omega))
            subst hf
            go_wp2
            go_ret
            exact ⟨rfl, rfl⟩
          · have hs : Hid (small x = true) := hid (by simp [small]; omega)
            go_wp2
            go_roundg (n - (k + 1))
            case measure => omega
            case rel => exact ⟨k + 1, by omega, rfl, rfl, rfl, hid (fun j y hj hy => by
              by_cases hjk : j < k
              · exact HA.out j y hjk hy
              · obtain rfl : j = k := by omega
                rw [HX.out] at hy; cases hy; exact hs.out)⟩
      · have hlt' : ¬ (k : Int) < (n : Int) := by omega
        obtain rfl : k = n := by omega
        have hf : r = true := HR.out.symm.trans (light_yes HN.out h60 HA.out)
        subst hf
        go_wp2
        go_ret
        exact ⟨rfl, rfl⟩
  · have h60' : 60 < (n : Int) := by omega
    have hf : r = false := HR.out.symm.trans (by have := HN.out; simp [light]; omega)
    subst hf
    go_enter Try.func18, Try.ntmps18
    go_wp2
    go_ret
    exact ⟨rfl, rfl⟩
end Go.Proofs.Ytkmcdbkdlalhdaa
