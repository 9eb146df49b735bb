/- Blanks and comments: the plain laws of what is skipped. No conditions. -/
import Derived.Test.YtpaenaofebdgiaaTokD
namespace Go.Proofs.Ytpaenaofebdgiaa
open Go.RowKit
def skipL : Bool → List UInt8 → Nat → Nat → Nat → Nat × Nat × Nat
  | _, [], k, ln, h => (k, ln, h)
  | true, c :: r, k, ln, h => if c == 10 then skipL false r (k + 1) (ln + 1) (k + 1) else skipL true r (k + 1) ln h
  | false, c :: r, k, ln, h =>
    if c == 10 then skipL false r (k + 1) (ln + 1) (k + 1)
    else if c == 32 || c == 9 then skipL false r (k + 1) ln h
    else if c == 47 && r.head? == some 47 then skipL true r (k + 1) ln h
    else (k, ln, h)

theorem beqI (c d : UInt8) : ((c.toNat : Int) == (d.toNat : Int)) = (c == d) := by
  rw [Bool.eq_iff_iff]; simp [← UInt8.toNat_inj]; omega

theorem skip_nl (b : Bool) (s : ByteArray) (k l h : Nat) (hk : k < s.size) (hc : ((s[k].toNat : Int) == 10) = true) :
    skipL b (s.data.toList.drop k) k l h = skipL false (s.data.toList.drop (k + 1)) (k + 1) (l + 1) (k + 1) := by
  rw [drop_at s k hk]
  have e : (s[k] == 10) = true := by rw [← beqI]; exact hc
  cases b <;> simp only [skipL, e, if_true]
theorem skip_sp (s : ByteArray) (k l h : Nat) (hk : k < s.size) (hc : ((s[k].toNat : Int) == 10) = false) (hd : (((s[k].toNat : Int) == 32) || ((s[k].toNat : Int) == 9)) = true) :
    skipL false (s.data.toList.drop k) k l h = skipL false (s.data.toList.drop (k + 1)) (k + 1) l h := by
  rw [drop_at s k hk]
  have e : (s[k] == 10) = false := by rw [← beqI]; exact hc
  have e2 : (s[k] == 32 || s[k] == 9) = true := by rw [← beqI, ← beqI]; exact hd
  simp only [skipL, e, e2, if_true]; rfl
theorem skip_in (s : ByteArray) (k l h : Nat) (hk : k < s.size) (hc : ((s[k].toNat : Int) == 10) = false) :
    skipL true (s.data.toList.drop k) k l h = skipL true (s.data.toList.drop (k + 1)) (k + 1) l h := by
  rw [drop_at s k hk]
  have e : (s[k] == 10) = false := by rw [← beqI]; exact hc
  simp only [skipL, e]; rfl
theorem skip_end (b : Bool) (s : ByteArray) (k l h : Nat) (hk : s.size ≤ k) : skipL b (s.data.toList.drop k) k l h = (k, l, h) := by
  rw [List.drop_eq_nil_of_le (by simpa using hk)]; cases b <;> rfl
/-- What HasPrefix tells of the text from k on. -/
def slashes (s : ByteArray) (k : Nat) : Bool := (s.extract k s.size).data.toList.take 2 == [47, 47]
theorem slashes_eq (s : ByteArray) (k : Nat) (hk : k < s.size) : slashes s k = (s[k] == 47 && (s.data.toList.drop (k + 1)).head? == some 47) := by
  unfold slashes
  rw [Lib.extract_to_end, drop_at s k hk]
  cases s.data.toList.drop (k + 1) with
  | nil => simp
  | cons a r => simp [List.take]
theorem skip_co (s : ByteArray) (k l h : Nat) (hk : k < s.size) (hc : ((s[k].toNat : Int) == 10) = false) (hd : (((s[k].toNat : Int) == 32) || ((s[k].toNat : Int) == 9)) = false) (hs : slashes s k = true) :
    skipL false (s.data.toList.drop k) k l h = skipL true (s.data.toList.drop k) k l h := by
  rw [skip_in s k l h hk hc]
  rw [slashes_eq s k hk] at hs
  rw [drop_at s k hk]
  have e : (s[k] == 10) = false := by rw [← beqI]; exact hc
  have e2 : (s[k] == 32 || s[k] == 9) = false := by rw [← beqI, ← beqI]; exact hd
  simp only [skipL, e, e2, hs]; rfl
theorem skip_no (s : ByteArray) (k l h : Nat) (hk : k < s.size) (hc : ((s[k].toNat : Int) == 10) = false) (hd : (((s[k].toNat : Int) == 32) || ((s[k].toNat : Int) == 9)) = false) (hs : slashes s k = false) :
    skipL false (s.data.toList.drop k) k l h = (k, l, h) := by
  rw [slashes_eq s k hk] at hs
  rw [drop_at s k hk]
  have e : (s[k] == 10) = false := by rw [← beqI]; exact hc
  have e2 : (s[k] == 32 || s[k] == 9) = false := by rw [← beqI, ← beqI]; exact hd
  simp only [skipL, e, e2, hs]; rfl
theorem slash_47 (s : ByteArray) (k : Nat) (hk : k < s.size) (hs : slashes s k = true) : ((s[k].toNat : Int) == 10) = false := by
  rw [slashes_eq s k hk] at hs
  have : s[k] = 47 := by
    have := (Bool.and_eq_true _ _ ▸ hs).1
    simpa using this
  rw [this]; rfl
theorem slashes_i (s : ByteArray) (k : Nat) (b : Bool) (w : World) (hs : s.size ≤ 2000000) (hk : k ≤ s.size) (hb : slashes s k = b) :
    Calls Try.prog 31 #[.string (s.extract k s.size), .string ⟨#[47, 47]⟩] w fun e w' => e = .returned (.bool b) ∧ w' = w := by
  rw [← hb]; exact hasprefix_i _ w (by have := Lib.size_eq (s.extract k s.size); rw [Lib.extract_to_end] at this; rw [this, List.length_drop, ← Lib.size_eq]; omega)
end Go.Proofs.Ytpaenaofebdgiaa
