/- Small functions of the tokenizer and the reader's block. No conditions. -/
import Derived.Test.YtpaenaofebdgiaaProg
import Derived.WalkKit
import Derived.BigQuiet
import Derived.Deep.QuietTactic
import Derived.Deep.LoopGhost
import Derived.RegionTactic
import Derived.WalkSpells
import Derived.Outline
import Derived.Lib.Strings
import Derived.Laws.NewBlocks
import Derived.Laws.ResultCell
namespace Go.Proofs.Ytpaenaofebdgiaa
open Go.RowKit
theorem hid {p : Prop} (h : p) : Hid p := h
theorem ret_bool {a b : Bool} (h : a = b) : Ending.returned (.bool a) = .returned (.bool b) := by rw [h]
def letterB (c : UInt8) : Bool := c == 95 || (97 ≤ c && c ≤ 122) || (65 ≤ c && c ≤ 90)
def digitB (c : UInt8) : Bool := 48 ≤ c && c ≤ 57
def runL (letters : Bool) : List UInt8 → Nat
  | [] => 0
  | c :: r => if digitB c || (letters && letterB c) then runL letters r + 1 else 0
def digI (x : Int) : Bool := decide (48 ≤ x ∧ x ≤ 57)
def lettI (x : Int) : Bool := decide (x = 95 ∨ (97 ≤ x ∧ x ≤ 122) ∨ (65 ≤ x ∧ x ≤ 90))
theorem digI_eq (c : UInt8) : digI (c.toNat : Int) = digitB c := by
  rw [Bool.eq_iff_iff]; simp [digI, digitB, UInt8.le_iff_toNat_le]; omega
theorem lettI_eq (c : UInt8) : lettI (c.toNat : Int) = letterB c := by
  rw [Bool.eq_iff_iff]; simp [lettI, letterB, UInt8.le_iff_toNat_le, ← UInt8.toNat_inj]; omega

theorem digit_i (x : Int) (w : World) :
    Calls Try.prog 17 #[.int .u8 x] w fun e w' => e = .returned (.bool (digI x)) ∧ w' = w := by
  by_cases h1 : 48 ≤ x <;> by_cases h2 : x ≤ 57 <;> (
    go_enter Try.func17, Try.ntmps17
    go_wp2
    all_goals go_ret
    all_goals exact ⟨ret_bool (by simp [digI]; try omega), rfl⟩)
theorem letter_i (x : Int) (w : World) :
    Calls Try.prog 16 #[.int .u8 x] w fun e w' => e = .returned (.bool (lettI x)) ∧ w' = w := by
  by_cases h0 : x = 95
  · subst h0
    go_enter Try.func16, Try.ntmps16
    go_wp2
    all_goals go_ret
    all_goals exact ⟨ret_bool (by simp [lettI]), rfl⟩
  · by_cases h1 : 97 ≤ x <;> by_cases h2 : x ≤ 122 <;> by_cases h3 : 65 ≤ x <;> by_cases h4 : x ≤ 90 <;> (
      first
      | (exfalso; omega)
      | (go_enter Try.func16, Try.ntmps16
         go_wp2
         all_goals go_ret
         all_goals exact ⟨ret_bool (by rw [Bool.eq_iff_iff]; simp [lettI]; omega), rfl⟩))
/-- The reader's block: the text, where it stands, the line, the line's head. -/
def Rdr (W : World) (B : Nat) (s : ByteArray) (a ln hd : Nat) : Prop := W.heap[B]? = some (.cells #[.string s, .int .i64 a, .int .i64 ln, .int .i64 hd] 57 (0, 0))

theorem Rdr.c {W : World} {B : Nat} {s : ByteArray} {a ln hd : Nat} (h : Rdr W B s a ln hd) :
    W.cell? ⟨B, 0, none⟩ = some (.string s) ∧ W.cell? ⟨B, 1, none⟩ = some (.int .i64 a) ∧ W.cell? ⟨B, 2, none⟩ = some (.int .i64 ln) ∧ W.cell? ⟨B, 3, none⟩ = some (.int .i64 hd) ∧
    W.frozen? ⟨B, 1, none⟩ = false ∧ W.frozen? ⟨B, 2, none⟩ = false ∧ W.frozen? ⟨B, 3, none⟩ = false := by
  unfold Rdr at h
  simp [World.cell?, World.frozen?, h]
theorem Rdr.lt {W : World} {B : Nat} {s : ByteArray} {a ln hd : Nat} (h : Rdr W B s a ln hd) : B < W.heap.size := (Array.getElem?_eq_some_iff.1 h).1
theorem Rdr.kept {W W' : World} {row : Option Nat} {B : Nat} {s : ByteArray} {a ln hd : Nat} (h : Rdr W B s a ln hd) (hg : W.grownBy W' row) (hne : some B ≠ row) : Rdr W' B s a ln hd := (hg.block B h.lt hne).trans h
theorem Rdr.alloc {W : World} {B : Nat} {s : ByteArray} {a ln hd : Nat} (h : Rdr W B s a ln hd) (o : Obj) : Rdr (W.alloc o) B s a ln hd := h.kept (World.grownBy_alloc W o none) (by simp)
theorem Rdr.drewN {W : World} {B : Nat} {s : ByteArray} {a ln hd : Nat} (h : Rdr W B s a ln hd) (n : Nat) : Rdr (W.drewN n) B s a ln hd := h
theorem Rdr.set1 {W : World} {B : Nat} {s : ByteArray} {a ln hd : Nat} (h : Rdr W B s a ln hd) (b : Nat) : Rdr (W.setCell ⟨B, 1, none⟩ (.int .i64 b)) B s b ln hd := by
  unfold Rdr at h ⊢
  simp [World.setCell, Array.getElem?_modify, h]
theorem Rdr.set2 {W : World} {B : Nat} {s : ByteArray} {a ln hd : Nat} (h : Rdr W B s a ln hd) (b : Nat) : Rdr (W.setCell ⟨B, 2, none⟩ (.int .i64 b)) B s a b hd := by
  unfold Rdr at h ⊢
  simp [World.setCell, Array.getElem?_modify, h]
theorem Rdr.set3 {W : World} {B : Nat} {s : ByteArray} {a ln hd : Nat} (h : Rdr W B s a ln hd) (b : Nat) : Rdr (W.setCell ⟨B, 3, none⟩ (.int .i64 b)) B s a ln b := by
  unfold Rdr at h ⊢
  simp [World.setCell, Array.getElem?_modify, h]

/-- What may have turned: block B; there may be new blocks. -/
abbrev Only (B : Nat) (w w' : World) : Prop := w.grownBy w' (some B)
theorem Only.refl (B : Nat) (w : World) : Only B w w := ⟨rfl, rfl, rfl, Nat.le_refl _, fun _ _ _ => rfl⟩
theorem Only.set {B : Nat} {w w' : World} (h : Only B w w') (o : Nat) (v : Value) : Only B w (w'.setCell ⟨B, o, none⟩ v) :=
  ⟨h.os, h.tape, h.output, by rw [show (w'.setCell ⟨B, o, none⟩ v).heap.size = w'.heap.size by simp [World.setCell]]; exact h.size, fun k hk hne => by rw [Below.heap_setCell _ _ _ _ (fun e => hne (by rw [e]))]; exact h.block k hk hne⟩
theorem Only.drewN {B : Nat} {w w' : World} (h : Only B w w') (n : Nat) : Only B w (w'.drewN n) := ⟨h.os, h.tape, h.output, h.size, h.block⟩

theorem place_i (B : Nat) (s : ByteArray) (a ln hd : Nat) (w : World) (h : Rdr w B s a ln hd) (ha : a ≤ 2000000) (hd' : hd ≤ a) :
    Calls Try.prog 26 #[.pointer (some ⟨B, 0, none⟩)] w fun e w' => e = .returned (.agg #[.int .i64 ln, .int .i64 (a - hd + 1 : Nat)]) ∧ Below w.heap.size w w' := by
  have c1 := fun o => (h.alloc o).c.2.1
  have c2 := fun o => (h.alloc o).c.2.2.1
  have c3 := fun o => (h.alloc o).c.2.2.2.1
  have hB := h.lt
  have e : ((a - hd + 1 : Nat) : Int) = (a : Int) - hd + 1 := by omega
  have E := hid e
  clear e h
  go_enter Try.func26, Try.ntmps26
  go_wp2
  go_region
  all_goals go_wp2
  rw [E.out]
  exact bodyPost_ret (v := .agg #[.int .i64 ln, .int .i64 ((a : Int) - hd + 1)]) (by simp [results, Try.results26, go_sem]) rfl ⟨rfl, ((Below.refl _ _).alloc (Nat.le_refl _) _).drew⟩

theorem drop_at (s : ByteArray) (k : Nat) (h : k < s.size) : s.data.toList.drop k = s[k] :: s.data.toList.drop (k + 1) := by
  rw [List.drop_eq_getElem_cons (by simpa using h)]; rfl
theorem run_stop (letters : Bool) (s : ByteArray) (k : Nat) (h : s.size ≤ k) : runL letters (s.data.toList.drop k) = 0 := by
  rw [List.drop_eq_nil_of_le (by simpa using h)]; rfl
theorem run_no (letters : Bool) (s : ByteArray) (k : Nat) (h : k < s.size) (hn : (digI (s[k].toNat : Int) || (letters && lettI (s[k].toNat : Int))) = false) : runL letters (s.data.toList.drop k) = 0 := by
  rw [drop_at s k h]; simp only [runL]; rw [digI_eq, lettI_eq] at hn; rw [hn]; rfl
theorem run_yes (letters : Bool) (s : ByteArray) (k : Nat) (h : k < s.size) (hn : (digI (s[k].toNat : Int) || (letters && lettI (s[k].toNat : Int))) = true) : runL letters (s.data.toList.drop k) = runL letters (s.data.toList.drop (k + 1)) + 1 := by
  rw [drop_at s k h]; simp only [runL]; rw [digI_eq, lettI_eq] at hn; rw [hn]; rfl

end Go.Proofs.Ytpaenaofebdgiaa
