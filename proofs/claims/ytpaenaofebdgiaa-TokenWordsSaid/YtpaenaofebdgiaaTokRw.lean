/- The reference of layer 1: letters, digits, words. No conditions. -/
import Derived.Test.YtpaenaofebdgiaaTokY
namespace Go.Proofs.Ytpaenaofebdgiaa
open Go.RowKit
set_option linter.unusedVariables false
set_option linter.unusedSimpArgs false
theorem rdigit_i (x : Int) (w : World) :
    Calls Try.prog 19 #[.int .u8 x] w fun e w' => e = .returned (.bool (digI x)) ∧ w' = w := by
  by_cases h1 : 48 ≤ x <;> by_cases h2 : x ≤ 57 <;> (
    go_enter Try.func19, Try.ntmps19
    go_wp2
    all_goals go_ret
    all_goals exact ⟨ret_bool (by simp [digI]; try omega), rfl⟩)
theorem rletter_i (x : Int) (w : World) :
    Calls Try.prog 18 #[.int .u8 x] w fun e w' => e = .returned (.bool (lettI x)) ∧ w' = w := by
  by_cases h0 : x = 95
  · subst h0
    go_enter Try.func18, Try.ntmps18
    go_wp2
    all_goals go_ret
    all_goals exact ⟨ret_bool (by simp [lettI]), rfl⟩
  · by_cases h1 : 97 ≤ x <;> by_cases h2 : x ≤ 122 <;> by_cases h3 : 65 ≤ x <;> by_cases h4 : x ≤ 90 <;> (
      first
      | (exfalso; omega)
      | (go_enter Try.func18, Try.ntmps18
         go_wp2
         all_goals go_ret
         all_goals exact ⟨ret_bool (by rw [Bool.eq_iff_iff]; simp [lettI]; omega), rfl⟩))
theorem rdigit_b (x : Int) (b : Bool) (w : World) (h : digI x = b) :
    Calls Try.prog 19 #[.int .u8 x] w fun e w' => e = .returned (.bool b) ∧ w' = w := h ▸ rdigit_i x w
theorem rletter_b (x : Int) (b : Bool) (w : World) (h : lettI x = b) :
    Calls Try.prog 18 #[.int .u8 x] w fun e w' => e = .returned (.bool b) ∧ w' = w := h ▸ rletter_i x w

def wordBytes (k : Nat) : ByteArray := ⟨⟨words.getD k []⟩⟩
abbrev wordsObj : Obj := .cells #[.string ⟨#[105, 110, 116]⟩, .string ⟨#[115, 116, 114, 117, 99, 116]⟩, .string ⟨#[105, 102]⟩, .string ⟨#[101, 108, 115, 101]⟩, .string ⟨#[119, 104, 105, 108, 101]⟩, .string ⟨#[98, 114, 101, 97, 107]⟩,
   .string ⟨#[99, 111, 110, 116, 105, 110, 117, 101]⟩, .string ⟨#[114, 101, 116, 117, 114, 110]⟩, .string ⟨#[102, 114, 101, 101]⟩, .string ⟨#[112, 117, 116]⟩, .string ⟨#[110, 101, 119]⟩, .string ⟨#[110, 117, 108, 108]⟩, .string ⟨#[103, 101, 116]⟩] 9
theorem rwords_i (w : World) : Calls Try.prog 15 #[] w fun e w' => e = .returned (.slice (some ⟨w.heap.size, 0, none⟩) 13 13) ∧ w' = w.alloc wordsObj := by
  go_enter Try.func15, Try.ntmps15
  go_wp2
  go_ret
  exact ⟨rfl, rfl⟩
theorem blk_cell {W : World} {k t : Nat} {vs : Array Value} (h : W.heap[k]? = some (.cells vs t (0, 0))) (i : Nat) : W.cell? ⟨k, i, none⟩ = vs[i]? := by
  simp [World.cell?, h]
theorem words_cell (w : World) (k : Nat) (h : k < 13) : (w.alloc wordsObj).cell? ⟨w.heap.size, k, none⟩ = some (.string (wordBytes k)) := by
  rw [blk_cell (heap_alloc_new w wordsObj)]
  match k, h with
  | 0, _ => rfl
  | 1, _ => rfl
  | 2, _ => rfl
  | 3, _ => rfl
  | 4, _ => rfl
  | 5, _ => rfl
  | 6, _ => rfl
  | 7, _ => rfl
  | 8, _ => rfl
  | 9, _ => rfl
  | 10, _ => rfl
  | 11, _ => rfl
  | 12, _ => rfl
theorem word_yes {s tx : ByteArray} {k : Nat} (hk : k < 13) (ht : tx = wordBytes k) (h : (tx.toList == s.toList) = true) : wordB s.data.toList = true := by
  subst ht
  have e : (wordBytes k).data.toList = s.data.toList := by
    have := by simpa using h
    rwa [Lib.toList_data, Lib.toList_data] at this
  unfold wordB
  rw [← e]
  have hl : k < words.length := hk
  rw [List.contains_iff_mem]
  show words.getD k [] ∈ words
  rw [show words.getD k [] = words[k] by simp [List.getD, hl]]
  exact List.getElem_mem hl
theorem word_no {s tx : ByteArray} {k : Nat} (hk : k < 13) (ht : tx = wordBytes k) (h : (tx.toList == s.toList) = false) (hp : (words.take k).contains s.data.toList = false) : (words.take (k + 1)).contains s.data.toList = false := by
  subst ht
  have e : (wordBytes k).data.toList ≠ s.data.toList := by
    have := by simpa using h
    rwa [Lib.toList_data, Lib.toList_data] at this
  have hl : k < words.length := hk
  have e2 : words[k] ≠ s.data.toList := by
    intro q; apply e
    show words.getD k [] = _
    rw [show words.getD k [] = words[k] by simp [List.getD, hl]]; exact q
  rw [List.take_add_one, List.getElem?_eq_getElem hl]
  have hp' : s.data.toList ∉ words.take k := by
    intro q; rw [List.contains_iff_mem.2 q] at hp; cases hp
  cases hq : (words.take k ++ (some words[k]).toList).contains s.data.toList with
  | false => rfl
  | true =>
    have hq' := List.contains_iff_mem.1 hq
    rcases List.mem_append.1 hq' with q | q
    · exact absurd q hp'
    · simp at q; exact absurd q.symm e2
set_option maxRecDepth 100000 in
set_option maxHeartbeats 8000000 in
theorem rword_b (s : ByteArray) (b : Bool) (w : World) (h : wordB s.data.toList = b) :
    Calls Try.prog 7 #[.string s] w fun e w' => e = .returned (.bool b) ∧ Below w.heap.size w w' := by
  have HW := hid h
  clear h
  have HC := hid (words_cell w)
  have HBel := hid ((Below.refl w.heap.size w).alloc (Nat.le_refl _) wordsObj)
  go_enter Try.func7, Try.ntmps7
  go_wp2_with (go_at_call 15; refine (rwords_i _).mono ?_; rintro e w' ⟨rfl, rfl⟩)
  obtain ⟨W2, hW2⟩ : ∃ W2, w.alloc wordsObj = W2 := ⟨_, rfl⟩
  simp only [wordsObj] at hW2
  rw [hW2] at HC HBel
  try rw [hW2]
  go_loopg [4] 13 (fun g v4 wr => ∃ k : Nat, k ≤ 13 ∧ g = 13 - k ∧ v4 = .int .i64 k ∧ wr = W2 ∧ Hid ((words.take k).contains s.data.toList = false))
  case atStart => exact ⟨0, Nat.zero_le _, rfl, rfl, rfl, hid rfl⟩
  case round =>
    obtain ⟨k, hk, rfl, rfl, rfl, HN⟩ := hrel
    by_cases hlt : k < 13
    · have hlt' : (k : Int) < 13 := by omega
      obtain ⟨tx, htx⟩ : ∃ tx : ByteArray, Hid (tx = wordBytes k) := ⟨_, hid rfl⟩
      have hc := HC.out k hlt
      rw [← htx.out] at hc
      cases hq : (tx.toList == s.toList)
      case true =>
        have hb : b = true := by rw [← HW.out]; exact word_yes hlt htx.out hq
        subst hb
        go_wp2
        go_ret
        exact ⟨rfl, HBel.out⟩
      case false =>
        go_wp2
        go_roundg (13 - (k + 1))
        case measure => omega
        case rel => exact ⟨k + 1, by omega, rfl, rfl, rfl, hid (word_no hlt htx.out hq HN.out)⟩
    · have hlt' : ¬ (k : Int) < 13 := by omega
      have hk13 : k = 13 := by omega
      have hb : b = false := by
        rw [← HW.out]; have := HN.out; rw [hk13] at this; exact this
      subst hb
      go_wp2
      go_ret
      exact ⟨rfl, HBel.out⟩
end Go.Proofs.Ytpaenaofebdgiaa
