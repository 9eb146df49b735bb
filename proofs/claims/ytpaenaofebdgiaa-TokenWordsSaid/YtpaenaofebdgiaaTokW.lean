/- Places of tokens: the plain laws. No conditions. -/
import Derived.Test.YtpaenaofebdgiaaTokU
namespace Go.Proofs.Ytpaenaofebdgiaa
open Go.RowKit

/-- Line and byte behind one byte more. -/
def stepP (c : UInt8) (p : Nat × Nat) : Nat × Nat := if c = 10 then (p.1 + 1, 1) else (p.1, p.2 + 1)
def posA : List UInt8 → Nat × Nat → Nat × Nat
  | [], p => p
  | c :: r, p => posA r (stepP c p)
def posL (L : List UInt8) (k : Nat) : Nat × Nat := posA (L.take k) (1, 1)
theorem posA_append (a b : List UInt8) (p : Nat × Nat) : posA (a ++ b) p = posA b (posA a p) := by
  induction a generalizing p with
  | nil => rfl
  | cons c r ih => simp only [List.cons_append, posA]; exact ih _
theorem posL_succ {L : List UInt8} {k : Nat} {c : UInt8} {r : List UInt8} (h : L.drop k = c :: r) : posL L (k + 1) = stepP c (posL L k) := by
  have hk : L[k]? = some c := by rw [← List.head?_drop, h]; rfl
  unfold posL
  rw [List.take_add_one, hk, posA_append]; rfl
theorem drop_succ {L : List UInt8} {k : Nat} {c : UInt8} {r : List UInt8} (h : L.drop k = c :: r) : L.drop (k + 1) = r := by
  rw [← List.drop_drop, h]; rfl
theorem skip_pos (L : List UInt8) : ∀ (b : Bool) (r : List UInt8) (k ln hd : Nat), L.drop k = r → hd ≤ k → posL L k = (ln, k - hd + 1) →
    (skipL b r k ln hd).2.2 ≤ (skipL b r k ln hd).1 ∧ posL L (skipL b r k ln hd).1 = ((skipL b r k ln hd).2.1, (skipL b r k ln hd).1 - (skipL b r k ln hd).2.2 + 1)
  | b, [], k, ln, hd, _, h1, h2 => by cases b <;> exact ⟨h1, h2⟩
  | true, c :: r, k, ln, hd, h, h1, h2 => by
    have hs := posL_succ h
    rw [h2] at hs
    simp only [skipL]
    split
    · rename_i hc
      have hc' : c = 10 := by simpa using hc
      exact skip_pos L false r (k + 1) (ln + 1) (k + 1) (drop_succ h) (Nat.le_refl _) (by rw [hs]; simp [stepP, hc'])
    · rename_i hc
      have hc' : ¬ c = 10 := by simpa using hc
      exact skip_pos L true r (k + 1) ln hd (drop_succ h) (by omega) (by rw [hs]; simp [stepP, hc']; omega)
  | false, c :: r, k, ln, hd, h, h1, h2 => by
    have hs := posL_succ h
    rw [h2] at hs
    simp only [skipL]
    split
    · rename_i hc
      have hc' : c = 10 := by simpa using hc
      exact skip_pos L false r (k + 1) (ln + 1) (k + 1) (drop_succ h) (Nat.le_refl _) (by rw [hs]; simp [stepP, hc'])
    · rename_i hc
      have hc' : ¬ c = 10 := by simpa using hc
      split
      · exact skip_pos L false r (k + 1) ln hd (drop_succ h) (by omega) (by rw [hs]; simp [stepP, hc']; omega)
      · split
        · exact skip_pos L true r (k + 1) ln hd (drop_succ h) (by omega) (by rw [hs]; simp [stepP, hc']; omega)
        · exact ⟨h1, h2⟩
theorem pos_run (L : List UInt8) : ∀ (n k : Nat) (p : Nat × Nat), k + n ≤ L.length → (∀ c ∈ (L.drop k).take n, c ≠ 10) → posL L k = p → posL L (k + n) = (p.1, p.2 + n)
  | 0, k, p, _, _, h => by rw [Nat.add_zero, h]; rfl
  | n + 1, k, p, hl, hc, h => by
    obtain ⟨c, r, hd⟩ : ∃ c r, L.drop k = c :: r := by
      cases hd : L.drop k with
      | nil => have := congrArg List.length hd; simp at this; omega
      | cons c r => exact ⟨c, r, rfl⟩
    rw [hd, List.take_succ_cons] at hc
    have hs := posL_succ hd
    have h10 : ¬ c = 10 := hc c (by simp)
    rw [h] at hs
    have := pos_run L n (k + 1) (p.1, p.2 + 1) (by omega) (fun x hx => hc x (by rw [drop_succ hd] at hx; simp [hx])) (by rw [hs]; simp [stepP, h10])
    rw [show k + (n + 1) = k + 1 + n by omega, this]
    simp; omega
theorem run_ne (b : Bool) : ∀ (l : List UInt8) (c : UInt8), c ∈ l.take (runL b l) → c ≠ 10
  | [], c, h => by simp at h
  | d :: r, c, h => by
    simp only [runL] at h
    by_cases hd : (digitB d || (b && letterB d)) = true
    · rw [if_pos hd, List.take_succ_cons] at h
      rcases List.mem_cons.1 h with rfl | h
      · intro e; subst e; revert hd; cases b <;> decide
      · exact run_ne b r c h
    · rw [if_neg hd] at h; simp at h
theorem sign_ne (l : List UInt8) (c : UInt8) (h : c ∈ l.take (signB l)) : c ≠ 10 := by
  unfold signB at h
  split at h
  · rename_i hc
    obtain ⟨-, hc⟩ := hc
    have : l.take 2 ∈ signs2 := by simpa using hc
    simp only [signs2, List.mem_cons, List.mem_nil_iff, or_false] at this
    rcases this with e | e | e | e | e <;> (rw [e] at h; intro e2; subst e2; revert h; decide)
  · split at h
    · simp at h
    · rename_i d r
      split at h
      · rename_i hc
        simp at h
        subst h
        intro e; subst e; revert hc; decide
      · simp at h
theorem read_ne {l : List UInt8} {kind : Nat} {text : List UInt8} {num size : Nat} (h : readL l = .tok kind text num size) : ∀ c ∈ l.take size, c ≠ 10 := by
  cases l with
  | nil => simp
  | cons c r =>
    simp only [readL] at h
    split at h
    · unfold nameL at h
      split at h
      · cases h
      · split at h
        · injection h with h1 h2 h3 h4; subst h4; exact run_ne _ _
        · injection h with h1 h2 h3 h4; subst h4; exact run_ne _ _
    · split at h
      · unfold numberL at h
        split at h
        · cases h
        · cases hv : numL ((c :: r).take (runL false (c :: r))) 0 with
          | none => rw [hv] at h; cases h
          | some v => rw [hv] at h; injection h with h1 h2 h3 h4; subst h4; exact run_ne _ _
      · unfold signL at h
        split at h
        · cases h
        · injection h with h1 h2 h3 h4; subst h4; exact sign_ne _

/-- Tokens stand at their places, one behind the other, the end behind all. -/
def Good (L : List UInt8) : Nat → List T → Prop
  | _, [] => False
  | a, [t] => a ≤ t.start ∧ t.start = L.length ∧ t.text = [] ∧ posL L t.start = (t.line, t.col)
  | a, t :: t2 :: r => a ≤ t.start ∧ t.text ≠ [] ∧ t.start + t.text.length ≤ L.length ∧ t.text = (L.drop t.start).take t.text.length ∧ posL L t.start = (t.line, t.col) ∧
      posL L (t.start + t.text.length) = (t.line, t.col + t.text.length) ∧ Good L (t.start + t.text.length) (t2 :: r)
theorem each_ne {src : List UInt8} {fuel k ln hd : Nat} : (eachL src (fuel + 1) k ln hd).1 ≠ [] ∨ (eachL src (fuel + 1) k ln hd).2 ≠ none := by
  obtain ⟨k1, l1, h1, hk⟩ : ∃ k1 l1 h1, skipL false (src.drop k) k ln hd = (k1, l1, h1) := ⟨_, _, _, rfl⟩
  cases hr : readL (src.drop k1) with
  | bad f size => rw [eachL_bad hk hr]; simp
  | tok kind text num size =>
    by_cases h5 : kind = 5
    · rw [eachL_end hk hr h5]; simp
    · rw [eachL_on hk hr h5]; simp
theorem each_good (L : List UInt8) : ∀ (fuel k ln hd : Nat), L.length - k < fuel → k ≤ L.length → hd ≤ k → ln ≤ k + 1 → posL L k = (ln, k - hd + 1) → (eachL L fuel k ln hd).2 = none → Good L k (eachL L fuel k ln hd).1
  | 0, k, ln, hd, hf, _, _, _, _, _ => by omega
  | fuel + 1, k, ln, hd, hf, hk, hdk, hln, hp, hn => by
    obtain ⟨k1, l1, h1, hs⟩ : ∃ k1 l1 h1, skipL false (L.drop k) k ln hd = (k1, l1, h1) := ⟨_, _, _, rfl⟩
    have hb := skip_bd false (L.drop k) k ln hd hdk hln
    have hq := skip_pos L false (L.drop k) k ln hd rfl hdk hp
    rw [hs] at hb hq
    simp only [List.length_drop] at hb hq
    obtain ⟨b1, b2, b3, b4⟩ := hb
    obtain ⟨-, hq⟩ := hq
    cases hr : readL (L.drop k1) with
    | bad f size => rw [eachL_bad hs hr] at hn; simp at hn
    | tok kind text num size =>
      obtain ⟨z1, z2, z3, z4, z5, z6⟩ := read_size hr
      rw [List.length_drop] at z1
      by_cases h5 : kind = 5
      · rw [eachL_end hs hr h5]
        have hnil := z3 h5
        have : L.length ≤ k1 := by
          have := congrArg List.length hnil
          simp at this; omega
        exact ⟨b1, by simp only; omega, by simp [z4, hnil], hq⟩
      · rw [eachL_on hs hr h5] at hn ⊢
        have z7 := z2 h5
        have hlen : text.length = size := by rw [z4, List.length_take, List.length_drop]; omega
        have hrun := pos_run L size k1 _ (by omega) (read_ne hr) hq
        have ih := each_good L fuel (k1 + size) l1 h1 (by omega) (by omega) (by omega) (by omega) (by rw [hrun]; simp; omega) hn
        cases fuel with
        | zero => omega
        | succ fuel =>
          cases he : (eachL L (fuel + 1) (k1 + size) l1 h1).1 with
          | nil => rcases each_ne (src := L) (fuel := fuel) (k := k1 + size) (ln := l1) (hd := h1) with q | q
                   · exact absurd he q
                   · exact absurd hn q
          | cons t2 r =>
            rw [he] at ih
            refine ⟨b1, ?_, ?_, ?_, hq, ?_, ?_⟩
            · intro e; simp only at e; rw [e] at hlen; simp at hlen; omega
            · simp only [hlen]; omega
            · simp only [hlen]; exact z4
            · simp only [hlen]; exact hrun
            · simp only [hlen]; exact ih
theorem scan_good {L : List UInt8} (h : (scanL L).2 = none) : Good L 0 (scanL L).1 :=
  each_good L (L.length + 1) 0 1 0 (by omega) (by omega) (by omega) (by omega) rfl h

/-- Places rise. -/
def ltP (p q : Nat × Nat) : Prop := p.1 < q.1 ∨ (p.1 = q.1 ∧ p.2 < q.2)
theorem pos_rise (L : List UInt8) : ∀ (n k : Nat), k + n + 1 ≤ L.length → ltP (posL L k) (posL L (k + n + 1))
  | n, k, h => by
    have step : ∀ j, j < L.length → ltP (posL L j) (posL L (j + 1)) := fun j hj => by
      obtain ⟨c, r, hd⟩ : ∃ c r, L.drop j = c :: r := by
        cases hd : L.drop j with
        | nil => have := congrArg List.length hd; simp at this; omega
        | cons c r => exact ⟨c, r, rfl⟩
      rw [posL_succ hd]
      unfold stepP ltP
      split <;> simp
    induction n with
    | zero => exact step k (by omega)
    | succ n ih =>
      have a := ih (by omega)
      have b := step (k + n + 1) (by omega)
      show ltP (posL L k) (posL L (k + (n + 1) + 1))
      rw [show k + (n + 1) + 1 = k + n + 1 + 1 by omega]
      unfold ltP at *
      omega
theorem pos_inj {L : List UInt8} {a b : Nat} (hab : a < b) (hb : b ≤ L.length) : posL L a ≠ posL L b := by
  obtain ⟨n, rfl⟩ : ∃ n, b = a + n + 1 := ⟨b - a - 1, by omega⟩
  have := pos_rise L n a hb
  intro e
  rw [e] at this
  unfold ltP at this
  omega
theorem pos_bd (L : List UInt8) : ∀ k, (posL L k).1 ≤ k + 1 ∧ (posL L k).2 ≤ k + 1
  | 0 => by simp [posL, posA]
  | k + 1 => by
    have ih := pos_bd L k
    cases hd : L.drop k with
    | nil =>
      have hl : L.length ≤ k := by have := congrArg List.length hd; simp at this; omega
      have e : posL L (k + 1) = posL L k := by unfold posL; rw [List.take_of_length_le (by omega), List.take_of_length_le (by omega)]
      rw [e]; omega
    | cons c r =>
      rw [posL_succ hd]; unfold stepP
      split <;> simp <;> omega
end Go.Proofs.Ytpaenaofebdgiaa
