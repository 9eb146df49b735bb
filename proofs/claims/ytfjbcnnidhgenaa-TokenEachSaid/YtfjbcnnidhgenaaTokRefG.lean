/- The reference of layer 1: what Scan keeps between two rounds: the plain laws. No conditions. -/
import Derived.Test.YtfjbcnnidhgenaaTokRefF
namespace Go.Proofs.Ytfjbcnnidhgenaa
open Go.RowKit
set_option linter.unusedVariables false
set_option linter.unusedSimpArgs false
theorem posA_shift : ∀ (xs : List UInt8) (l0 c0 l c l1 c1 : Nat), posA xs (l0, c0) = (l1, c1) → l0 ≤ l1 ∧ (l1 = l0 → c0 ≤ c1) ∧ (1 ≤ c0 → 1 ≤ c1) ∧ posA xs (l, c) = if l0 < l1 then (l + (l1 - l0), c1) else (l, c + (c1 - c0))
  | [], l0, c0, l, c, l1, c1, h => by
    injection h with h1 h2
    subst h1 h2
    exact ⟨Nat.le_refl _, fun _ => Nat.le_refl _, id, by simp [posA]⟩
  | x :: r, l0, c0, l, c, l1, c1, h => by
    simp only [posA, stepP] at h ⊢
    by_cases hx : x = 10
    · rw [if_pos hx] at h ⊢
      obtain ⟨a1, a2, a3, a4⟩ := posA_shift r (l0 + 1) 1 (l + 1) 1 l1 c1 h
      refine ⟨by omega, fun q => by omega, fun _ => a3 (by omega), ?_⟩
      rw [a4, if_pos (show l0 < l1 by omega)]
      have := a3 (by omega)
      split
      · rw [show l + 1 + (l1 - (l0 + 1)) = l + (l1 - l0) by omega]
      · have : l1 = l0 + 1 := by omega
        rw [show l + (l1 - l0) = l + 1 by omega, show 1 + (c1 - 1) = c1 by omega]
    · rw [if_neg hx] at h ⊢
      obtain ⟨a1, a2, a3, a4⟩ := posA_shift r l0 (c0 + 1) l (c + 1) l1 c1 h
      refine ⟨a1, fun q => by have := a2 q; omega, fun q => a3 (by omega), ?_⟩
      rw [a4]
      split
      · rfl
      · have : l1 = l0 := by omega
        have := a2 this
        rw [show c + 1 + (c1 - (c0 + 1)) = c + (c1 - c0) by omega]
theorem posL_ext {s : ByteArray} {a b : Nat} (hab : a ≤ b) (hb : b ≤ s.size) {l c l1 c1 : Nat} (ha : posL s.data.toList a = (l, c)) (hp : posL (s.extract a b).data.toList (b - a) = (l1, c1)) :
    1 ≤ l1 ∧ 1 ≤ c1 ∧ posL s.data.toList b = if 1 < l1 then (l + (l1 - 1), c1) else (l, c + (c1 - 1)) := by
  have e : (s.extract a b).data.toList = (s.data.toList.drop a).take (b - a) := Lib.extract_data _ _ _
  unfold posL at hp ha ⊢
  rw [e, List.take_take, Nat.min_self] at hp
  obtain ⟨a1, -, a3, a4⟩ := posA_shift _ 1 1 l c l1 c1 hp
  refine ⟨a1, a3 (Nat.le_refl _), ?_⟩
  rw [← a4, show b = a + (b - a) by omega, List.take_add, posA_append, ha, show a + (b - a) - a = b - a by omega]

/-- Between two rounds of the reference's Scan: what is done, the next byte, its place. -/
def AtS (src : List UInt8) (done : List T) (i l c : Nat) : Prop :=
  ∃ fuel k ln hd h1, src.length - k < fuel ∧ hd ≤ k ∧ ln ≤ k + 1 ∧ k ≤ src.length ∧ skipL false (src.drop k) k ln hd = (i, l, h1) ∧ h1 ≤ i ∧ c = i - h1 + 1 ∧ i ≤ src.length ∧ posL src i = (l, c) ∧
    scanL src = (done ++ (eachL src fuel k ln hd).1, (eachL src fuel k ln hd).2)
theorem atS_mk {src : List UInt8} {done : List T} {fuel k ln hd : Nat} (h1 : src.length - k < fuel) (h2 : hd ≤ k) (h3 : ln ≤ k + 1) (h4 : k ≤ src.length) (hp : posL src k = (ln, k - hd + 1)) (hs : scanL src = (done ++ (eachL src fuel k ln hd).1, (eachL src fuel k ln hd).2))
    {i l c : Nat} (hi : i = (skipL false (src.drop k) k 1 0).1) (hq : posL src i = (l, c)) : AtS src done i l c := by
  obtain ⟨k1, l1, q1, hk⟩ : ∃ k1 l1 q1, skipL false (src.drop k) k ln hd = (k1, l1, q1) := ⟨_, _, _, rfl⟩
  have e := skip_fst false (src.drop k) k ln hd 1 0
  rw [hk, ← hi] at e
  simp only at e
  subst e
  have hb := skip_bd false (src.drop k) k ln hd h2 h3
  have hz := skip_pos src false (src.drop k) k ln hd rfl h2 hp
  rw [hk] at hb hz
  simp only [List.length_drop] at hb hz
  obtain ⟨b1, b2, b3, b4⟩ := hb
  obtain ⟨z1, z2⟩ := hz
  rw [z2] at hq
  injection hq with e1 e2
  subst e1 e2
  exact ⟨fuel, k, ln, hd, q1, h1, h2, h3, h4, hk, z1, rfl, by omega, z2, hs⟩
theorem atS_start (src : List UInt8) {i l c : Nat} (hi : i = (skipL false (src.drop 0) 0 1 0).1) (hq : posL src i = (l, c)) : AtS src [] i l c :=
  atS_mk (fuel := src.length + 1) (k := 0) (ln := 1) (hd := 0) (by omega) (Nat.le_refl _) (by omega) (by omega) rfl rfl hi hq
theorem atS_bad {src : List UInt8} {done : List T} {i l c f size : Nat} (h : AtS src done i l c) (hr : readL (src.drop i) = .bad f size) : scanL src = (done, some ⟨f, l, c⟩) := by
  obtain ⟨fuel, k, ln, hd, h1, q1, q2, q3, q4, q5, q6, q7, q8, q9, q10⟩ := h
  cases fuel with
  | zero => omega
  | succ fuel => rw [q10, eachL_bad q5 hr, q7]; simp
theorem atS_end {src : List UInt8} {done : List T} {i l c : Nat} (h : AtS src done i l c) (hi : src.length ≤ i) : scanL src = (done ++ [⟨5, [], 0, l, c, i⟩], none) := by
  obtain ⟨fuel, k, ln, hd, h1, q1, q2, q3, q4, q5, q6, q7, q8, q9, q10⟩ := h
  have hr : readL (src.drop i) = .tok 5 [] 0 0 := by rw [List.drop_eq_nil_of_le hi]; rfl
  cases fuel with
  | zero => omega
  | succ fuel => rw [q10, eachL_end q5 hr rfl, q7]
theorem atS_on {src : List UInt8} {done : List T} {i l c kind num size i' l' c' : Nat} {text : List UInt8} (h : AtS src done i l c) (hr : readL (src.drop i) = .tok kind text num size) (h5 : kind ≠ 5)
    (hi : i' = (skipL false (src.drop (i + size)) (i + size) 1 0).1) (hq : posL src i' = (l', c')) : AtS src (done ++ [⟨kind, text, num, l, c, i⟩]) i' l' c' := by
  obtain ⟨fuel, k, ln, hd, h1, q1, q2, q3, q4, q5, q6, q7, q8, q9, q10⟩ := h
  obtain ⟨z1, z2, z3, z4, z5, z6⟩ := read_size hr
  rw [List.length_drop] at z1
  have z7 := z2 h5
  have hb := skip_bd false (src.drop k) k ln hd q2 q3
  rw [q5] at hb
  simp only [List.length_drop] at hb
  obtain ⟨b1, b2, b3, b4⟩ := hb
  have hrun := pos_run src size i _ (by omega) (read_ne hr) q9
  cases fuel with
  | zero => omega
  | succ fuel =>
    refine atS_mk (fuel := fuel) (k := i + size) (ln := l) (hd := h1) (by omega) (by omega) (by omega) (by omega) (by rw [hrun, q7]; simp; omega) ?_ hi hq
    rw [q10, eachL_on q5 hr h5, q7]
    simp
theorem atS_size {src : List UInt8} {done : List T} {i l c kind num size : Nat} {text : List UInt8} (h : AtS src done i l c) (hr : readL (src.drop i) = .tok kind text num size) (h5 : kind ≠ 5) : i + size ≤ src.length ∧ 1 ≤ size ∧ text.length = size ∧ kind ≤ 5 ∧ num ≤ 2147483647 := by
  obtain ⟨fuel, k, ln, hd, h1, q1, q2, q3, q4, q5, q6, q7, q8, q9, q10⟩ := h
  obtain ⟨z1, z2, z3, z4, z5, z6⟩ := read_size hr
  rw [List.length_drop] at z1
  have z7 := z2 h5
  refine ⟨by omega, z7, ?_, z5, z6⟩
  rw [z4, List.length_take, List.length_drop]; omega
theorem read_kind {src : List UInt8} {i kind num size : Nat} {text : List UInt8} (hi : i < src.length) (hr : readL (src.drop i) = .tok kind text num size) : kind ≠ 5 := by
  obtain ⟨z1, z2, z3, z4, z5, z6⟩ := read_size hr
  intro e
  have := congrArg List.length (z3 e)
  rw [List.length_drop] at this
  simp at this; omega
end Go.Proofs.Ytfjbcnnidhgenaa
