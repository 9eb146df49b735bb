/- Numbers: the plain laws. No conditions. -/
import Derived.Test.YtpaenaofebdgiaaTokJ
namespace Go.Proofs.Ytpaenaofebdgiaa
open Go.RowKit
/-- The value of digits, if it is at most 2^31 - 1 all along. -/
def numL : List UInt8 → Nat → Option Nat
  | [], n => some n
  | c :: r, n => if 2147483647 < n * 10 + (c.toNat - 48) then none else numL r (n * 10 + (c.toNat - 48))
def numberL (l : List UInt8) : Rd :=
  if (1 < runL false l ∧ l.head? = some 48) ∨ (l.drop (runL false l)).head?.any letterB = true then .bad 3 (runL false l)
  else match numL (l.take (runL false l)) 0 with
    | none => .bad 2 (runL false l)
    | some v => .tok 3 (l.take (runL false l)) v (runL false l)

theorem run_digits : ∀ (l : List UInt8) (c : UInt8), c ∈ l.take (runL false l) → digitB c = true
  | [], c, h => by simp at h
  | d :: r, c, h => by
    simp only [runL] at h
    by_cases hd : digitB d = true
    · rw [if_pos (by simp [hd]), List.take_succ_cons] at h
      rcases List.mem_cons.1 h with rfl | h
      · exact hd
      · exact run_digits r c h
    · rw [if_neg (by simp [hd])] at h; simp at h
theorem digit_bd {c : UInt8} (h : digitB c = true) : 48 ≤ (c.toNat : Int) ∧ (c.toNat : Int) ≤ 57 := by
  rw [← digI_eq] at h; unfold digI at h; exact of_decide_eq_true h
theorem head_tx {l : List UInt8} {tx : ByteArray} (ht : tx.data.toList = l.take (runL false l)) (hz : tx.size = runL false l) (h : 0 < tx.size) : l.head? = some tx[0] := by
  obtain ⟨r, hr⟩ := head_of tx h
  cases l with
  | nil => rw [hr] at ht; simp at ht
  | cons c l =>
    rw [hr] at ht
    rw [← hz] at ht
    have : (c :: l).take tx.size = c :: l.take (tx.size - 1) := by
      obtain ⟨m, hm⟩ : ∃ m, tx.size = m + 1 := ⟨tx.size - 1, by omega⟩
      rw [hm]; rfl
    rw [this] at ht
    injection ht with h1 _
    simp [h1]
theorem odd_1 {l : List UInt8} {tx : ByteArray} (ht : tx.data.toList = l.take (runL false l)) (hz : tx.size = runL false l) (h : 0 < tx.size) (h1 : 1 < tx.size) (h48 : ((tx[0].toNat : Int) == 48) = true) : numberL l = .bad 3 (runL false l) := by
  unfold numberL
  rw [if_pos (.inl ⟨by omega, by
    rw [head_tx ht hz h]
    have e : (tx[0] == 48) = true := by rw [← beqI]; exact h48
    simpa using e⟩)]
theorem no_1 {l : List UInt8} {tx : ByteArray} (ht : tx.data.toList = l.take (runL false l)) (hz : tx.size = runL false l) (h : 0 < tx.size) (h48 : ((tx[0].toNat : Int) == 48) = false) : ¬ (1 < runL false l ∧ l.head? = some 48) := by
  rintro ⟨_, q⟩
  rw [head_tx ht hz h] at q
  injection q with q
  rw [q] at h48
  exact absurd h48 (by decide)
theorem drop_run (s : ByteArray) (a n : Nat) (h : a + n < s.size) : ((s.data.toList.drop a).drop n).head? = some s[a + n] := by
  rw [List.drop_drop, drop_at s (a + n) h]; rfl
theorem odd_2 {s : ByteArray} {a : Nat} (h : a + runL false (s.data.toList.drop a) < s.size) (hl : lettI (s[a + runL false (s.data.toList.drop a)].toNat : Int) = true) : numberL (s.data.toList.drop a) = .bad 3 (runL false (s.data.toList.drop a)) := by
  unfold numberL
  rw [if_pos (.inr (by rw [drop_run s a _ h]; rw [lettI_eq] at hl; exact hl))]
theorem no_2a {s : ByteArray} {a : Nat} (h : a + runL false (s.data.toList.drop a) < s.size) (hl : lettI (s[a + runL false (s.data.toList.drop a)].toNat : Int) = false) : ¬ (((s.data.toList.drop a).drop (runL false (s.data.toList.drop a))).head?.any letterB = true) := by
  rw [drop_run s a _ h]; rw [lettI_eq] at hl; simp [hl]
theorem no_2b {s : ByteArray} {a : Nat} (h : s.size ≤ a + runL false (s.data.toList.drop a)) : ¬ (((s.data.toList.drop a).drop (runL false (s.data.toList.drop a))).head?.any letterB = true) := by
  rw [List.drop_drop, List.drop_eq_nil_of_le (by simpa using h)]; simp
theorem num_none {l : List UInt8} (h1 : ¬ (1 < runL false l ∧ l.head? = some 48)) (h2 : ¬ ((l.drop (runL false l)).head?.any letterB = true)) (h : numL (l.take (runL false l)) 0 = none) : numberL l = .bad 2 (runL false l) := by
  unfold numberL; rw [if_neg (fun q => q.elim h1 h2), h]
theorem num_some {l : List UInt8} {v : Nat} (h1 : ¬ (1 < runL false l ∧ l.head? = some 48)) (h2 : ¬ ((l.drop (runL false l)).head?.any letterB = true)) (h : numL (l.take (runL false l)) 0 = some v) : numberL l = .tok 3 (l.take (runL false l)) v (runL false l) := by
  unfold numberL; rw [if_neg (fun q => q.elim h1 h2), h]
theorem num_stop {t : ByteArray} {k m : Nat} (hk : k < t.size) (hd : 48 ≤ (t[k].toNat : Int)) (h : (2147483647 : Int) < (m : Int) * 10 + ((t[k].toNat : Int) - 48)) : numL (t.data.toList.drop k) m = none := by
  rw [drop_at t k hk]; simp only [numL]; rw [if_pos (by omega)]
theorem num_on {t : ByteArray} {k m : Nat} (hk : k < t.size) (hd : 48 ≤ (t[k].toNat : Int)) (h : (m : Int) * 10 + ((t[k].toNat : Int) - 48) ≤ 2147483647) : numL (t.data.toList.drop k) m = numL (t.data.toList.drop (k + 1)) (m * 10 + (t[k].toNat - 48)) := by
  rw [drop_at t k hk]; simp only [numL]; rw [if_neg (by omega)]
theorem num_end {t : ByteArray} {k m : Nat} (hk : t.size ≤ k) : numL (t.data.toList.drop k) m = some m := by
  rw [List.drop_eq_nil_of_le (by simpa using hk)]; rfl
end Go.Proofs.Ytpaenaofebdgiaa
