/- The tokens of a text, one behind the other: the plain laws. No conditions. -/
import Derived.Test.YtpaenaofebdgiaaTokR
namespace Go.Proofs.Ytpaenaofebdgiaa
open Go.RowKit

/-- A token, and the byte at which it begins. -/
structure T where
  kind : Nat
  text : List UInt8
  num : Nat
  line : Nat
  col : Nat
  start : Nat
/-- What is wrong: the fault, and its place. -/
structure D where
  fault : Nat
  line : Nat
  col : Nat

/-- The tokens from place k on, and what is wrong behind them, if something is. -/
def eachL (src : List UInt8) : Nat → Nat → Nat → Nat → List T × Option D
  | 0, _, _, _ => ([], none)
  | fuel + 1, k, ln, h =>
    match readL (src.drop (skipL false (src.drop k) k ln h).1) with
    | .bad f _ => ([], some ⟨f, (skipL false (src.drop k) k ln h).2.1, (skipL false (src.drop k) k ln h).1 - (skipL false (src.drop k) k ln h).2.2 + 1⟩)
    | .tok kind text num size =>
      if kind = 5 then ([⟨kind, text, num, (skipL false (src.drop k) k ln h).2.1, (skipL false (src.drop k) k ln h).1 - (skipL false (src.drop k) k ln h).2.2 + 1, (skipL false (src.drop k) k ln h).1⟩], none)
      else
        (⟨kind, text, num, (skipL false (src.drop k) k ln h).2.1, (skipL false (src.drop k) k ln h).1 - (skipL false (src.drop k) k ln h).2.2 + 1, (skipL false (src.drop k) k ln h).1⟩ ::
          (eachL src fuel ((skipL false (src.drop k) k ln h).1 + size) (skipL false (src.drop k) k ln h).2.1 (skipL false (src.drop k) k ln h).2.2).1,
         (eachL src fuel ((skipL false (src.drop k) k ln h).1 + size) (skipL false (src.drop k) k ln h).2.1 (skipL false (src.drop k) k ln h).2.2).2)

def scanL (src : List UInt8) : List T × Option D := eachL src (src.length + 1) 0 1 0

/-- What is handed to the loop's body: a token, and a diag. -/
structure El where
  kind : Nat
  tx : ByteArray
  num : Nat
  line : Nat
  col : Nat
  st : Nat
  wh : Nat
  dl : Nat
  dc : Nat
def elT (t : T) : El := ⟨t.kind, ⟨⟨t.text⟩⟩, t.num, t.line, t.col, 0, 0, 0, 0⟩
def elD (d : D) : El := ⟨0, ⟨#[]⟩, 0, 0, 0, 1, d.fault, d.line, d.col⟩
def elems (r : List T × Option D) : List El := r.1.map elT ++ (r.2.map elD).toList
abbrev diagV (st wh dl dc : Nat) : Value := .agg #[.int .i64 st, .int .i64 wh, .int .i64 dl, .int .i64 dc]
abbrev encE (x : El) : Array Value := #[tokV x.kind x.tx x.num x.line x.col, diagV x.st x.wh x.dl x.dc]

theorem skip_bd : ∀ (b : Bool) (r : List UInt8) (k ln h : Nat), h ≤ k → ln ≤ k + 1 →
    k ≤ (skipL b r k ln h).1 ∧ (skipL b r k ln h).1 ≤ k + r.length ∧ (skipL b r k ln h).2.2 ≤ (skipL b r k ln h).1 ∧ (skipL b r k ln h).2.1 ≤ (skipL b r k ln h).1 + 1
  | b, [], k, ln, h, h1, h2 => by cases b <;> simp [skipL] <;> omega
  | true, c :: r, k, ln, h, h1, h2 => by
    simp only [skipL, List.length_cons]
    split
    · have := skip_bd false r (k + 1) (ln + 1) (k + 1) (by omega) (by omega); omega
    · have := skip_bd true r (k + 1) ln h (by omega) (by omega); omega
  | false, c :: r, k, ln, h, h1, h2 => by
    simp only [skipL, List.length_cons]
    split
    · have := skip_bd false r (k + 1) (ln + 1) (k + 1) (by omega) (by omega); omega
    · split
      · have := skip_bd false r (k + 1) ln h (by omega) (by omega); omega
      · split
        · have := skip_bd true r (k + 1) ln h (by omega) (by omega); omega
        · simp only []; omega

theorem run_pos {b : Bool} {c : UInt8} {r : List UInt8} (h : (digitB c || (b && letterB c)) = true) : 1 ≤ runL b (c :: r) := by
  simp only [runL]; rw [if_pos h]; omega

theorem numL_le : ∀ (l : List UInt8) (n v : Nat), n ≤ 2147483647 → numL l n = some v → v ≤ 2147483647
  | [], n, v, hn, h => by simp only [numL] at h; injection h with h; omega
  | c :: r, n, v, hn, h => by
    simp only [numL] at h
    split at h
    · cases h
    · exact numL_le r _ v (by omega) h

theorem read_size {l : List UInt8} {kind : Nat} {text : List UInt8} {num size : Nat} (h : readL l = .tok kind text num size) : size ≤ l.length ∧ (kind ≠ 5 → 1 ≤ size) ∧ (kind = 5 → l = []) ∧ text = l.take size ∧ kind ≤ 5 ∧ num ≤ 2147483647 := by
  cases l with
  | nil => simp only [readL] at h; injection h with h1 h2 h3 h4; subst h1 h2 h3 h4; simp
  | cons c r =>
    simp only [readL] at h
    split at h
    · rename_i hc
      have hp : 1 ≤ runL true (c :: r) := run_pos (by simp [hc])
      have hle := runL_le true (c :: r)
      unfold nameL at h
      split at h
      · cases h
      · split at h
        · injection h with h1 h2 h3 h4; subst h1 h2 h3 h4; exact ⟨hle, fun _ => hp, fun e => by omega, rfl, by omega, by omega⟩
        · injection h with h1 h2 h3 h4; subst h1 h2 h3 h4; exact ⟨hle, fun _ => hp, fun e => by omega, rfl, by omega, by omega⟩
    · split at h
      · rename_i hc
        have hp : 1 ≤ runL false (c :: r) := run_pos (by simp [hc])
        have hle := runL_le false (c :: r)
        unfold numberL at h
        split at h
        · cases h
        · cases hv : numL ((c :: r).take (runL false (c :: r))) 0 with
          | none => rw [hv] at h; cases h
          | some v =>
            rw [hv] at h
            have hb := numL_le _ _ _ (by omega) hv
            injection h with h1 h2 h3 h4; subst h1 h2 h3 h4; exact ⟨hle, fun _ => hp, fun e => by omega, rfl, by omega, hb⟩
      · have hle := signB_le (c :: r)
        unfold signL at h
        split at h
        · cases h
        · injection h with h1 h2 h3 h4; subst h1 h2 h3 h4; exact ⟨hle, fun _ => by omega, fun e => by omega, rfl, by omega, by omega⟩
theorem read_bad {l : List UInt8} {f size : Nat} (h : readL l = .bad f size) : f = 2 ∨ f = 3 := by
  cases l with
  | nil => simp only [readL] at h; cases h
  | cons c r =>
    simp only [readL] at h
    split at h
    · unfold nameL at h
      split at h
      · injection h with h1 h2; omega
      · split at h <;> cases h
    · split at h
      · unfold numberL at h
        split at h
        · injection h with h1 h2; omega
        · cases hv : numL ((c :: r).take (runL false (c :: r))) 0 with
          | none => rw [hv] at h; injection h with h1 h2; omega
          | some v => rw [hv] at h; cases h
      · unfold signL at h
        split at h
        · injection h with h1 h2; omega
        · cases h
end Go.Proofs.Ytpaenaofebdgiaa
