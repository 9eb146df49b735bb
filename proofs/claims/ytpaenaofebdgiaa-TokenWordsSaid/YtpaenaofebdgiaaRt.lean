/- The reference of layer 1: the text of tokens, and which are the same. Condition: at most 100000 tokens. -/
import Derived.Test.YtpaenaofebdgiaaSm
import Derived.Test.YtpaenaofebdgiaaNm
namespace Go.Proofs.Ytpaenaofebdgiaa
open Go.RowKit
set_option linter.unusedVariables false
set_option linter.unusedSimpArgs false
theorem ret_str {a b : ByteArray} (h : a = b) : Ending.returned (.string a) = .returned (.string b) := by rw [h]
theorem join_snoc (xs : List (List UInt8)) (x sep : List UInt8) (h : xs ≠ []) : Lib.join (xs ++ [x]) sep = Lib.join xs sep ++ (sep ++ x) := by
  cases xs with
  | nil => exact absurd rfl h
  | cons y r => rw [List.cons_append, Lib.join_cons, Lib.join_cons]; simp [Lib.joinTail]
def joinS (ss : List ByteArray) : List UInt8 := Lib.join (ss.map (·.data.toList)) [32]
theorem joinS_first {ss : List ByteArray} {x st : ByteArray} (h : st.data.toList = joinS ss) (h0 : ss.length = 0) : (st ++ x).data.toList = joinS (ss ++ [x]) := by
  have e := List.eq_nil_of_length_eq_zero h0
  subst e
  have : st.data.toList = [] := h
  simp [this, joinS, Lib.join_one]
theorem joinS_more {ss : List ByteArray} {x st : ByteArray} (h : st.data.toList = joinS ss) (h0 : ss.length ≠ 0) : ((st ++ ⟨#[32]⟩) ++ x).data.toList = joinS (ss ++ [x]) := by
  have e : ss.map (·.data.toList) ≠ [] := fun q => h0 (by have := congrArg List.length q; simpa using this)
  unfold joinS at *
  rw [List.map_append, List.map_cons, List.map_nil, join_snoc _ _ _ e, ← h]
  simp
set_option maxRecDepth 100000 in
set_option maxHeartbeats 8000000 in
theorem rtext_i (xs : List Tk) (g o cap : Nat) (w : World) (hL : Lies w g o xs) (hn : xs.length ≤ 100000) (hcap : xs.length ≤ cap) (hmax : cap ≤ 9223372036854775807) (hz : ∀ x ∈ xs, x.tx.size ≤ 1000) :
    Calls Try.prog 11 #[.slice (some ⟨g, o, none⟩) xs.length cap] w fun e w' => e = .returned (.string ⟨⟨textK xs⟩⟩) ∧ w = w' := by
  have HL := hid hL
  have HZ := hid hz
  clear hL hz
  go_enter Try.func11, Try.ntmps11
  go_wp2
  go_loopg [3, 4, 5] xs.length (fun gk v3 v4 v5 wr => ∃ (k n : Nat) (st : ByteArray), k ≤ xs.length ∧ gk = xs.length - k ∧ v5 = .int .i64 k ∧ v4 = .int .i64 n ∧ v3 = .string st ∧ n ≤ k ∧ st.size ≤ 1001 * k ∧ Hid (n = (strs (xs.take k)).length) ∧ Hid (st.data.toList = joinS (strs (xs.take k))) ∧ wr = w)
  case atStart => exact ⟨0, 0, ⟨#[]⟩, Nat.zero_le _, rfl, rfl, rfl, rfl, Nat.le_refl _, Nat.le_refl _, hid rfl, hid rfl, rfl⟩
  case round =>
    obtain ⟨k, n, st, hk, rfl, rfl, rfl, rfl, hnk, hst, HN, HS, rfl⟩ := hrel
    by_cases hlt : k < xs.length
    · have hlt' : (k : Int) < (xs.length : Int) := by omega
      obtain ⟨x, hx⟩ : ∃ x, xs[k]? = some x := ⟨_, List.getElem?_eq_getElem hlt⟩
      obtain ⟨c0, c1, c2, c3, c4⟩ := HL.out.at hx
      have HT := hid (strs_take hx)
      have hxz := HZ.out x (List.mem_of_getElem? hx)
      have b1 : (st.size : Int) ≤ 100100000 := by omega
      have hp1 : (st ++ ⟨#[32]⟩).size = st.size + 1 := by rw [ByteArray.size_append]; rfl
      have HP1 := hid hp1
      have b2 : ((st ++ ⟨#[32]⟩).size : Int) ≤ 100100001 := by omega
      have b3 : (x.tx.size : Int) ≤ 1000 := by omega
      clear hx hp1
      cases h5 : (x.kind == 5)
      case true =>
        have h5' : (x.kind != 5) = false := eq_of_beq' h5
        have HT2 := hid (show strs (xs.take (k + 1)) = strs (xs.take k) from by rw [HT.out, if_neg (by rw [h5']; simp), List.append_nil])
        clear h5'
        go_wp2
        go_roundg (xs.length - (k + 1))
        case measure => omega
        case rel => exact ⟨k + 1, n, st, by omega, rfl, rfl, rfl, rfl, by omega, by omega, hid (by rw [HT2.out]; exact HN.out), hid (by rw [HT2.out]; exact HS.out), rfl⟩
      case false =>
        have h5' : (x.kind != 5) = true := ne_of_beq h5
        have HT2 := hid (show strs (xs.take (k + 1)) = strs (xs.take k) ++ [x.tx] from by rw [HT.out, if_pos h5'])
        clear h5'
        by_cases hn0 : 0 < n
        · have hn0' : (0 : Int) < (n : Int) := by omega
          go_wp2
          go_roundg (xs.length - (k + 1))
          case measure => omega
          case rel => exact ⟨k + 1, n + 1, _, by omega, rfl, rfl, rfl, rfl, by omega, by rw [ByteArray.size_append, HP1.out]; omega, hid (by rw [HT2.out, List.length_append, ← HN.out]; rfl), hid (by rw [HT2.out]; exact joinS_more HS.out (by rw [← HN.out]; omega)), rfl⟩
        · have hn0' : ¬ (0 : Int) < (n : Int) := by omega
          go_wp2
          go_roundg (xs.length - (k + 1))
          case measure => omega
          case rel => exact ⟨k + 1, n + 1, _, by omega, rfl, rfl, rfl, rfl, by omega, by rw [ByteArray.size_append]; omega, hid (by rw [HT2.out, List.length_append, ← HN.out]; rfl), hid (by rw [HT2.out]; exact joinS_first HS.out (by rw [← HN.out]; omega)), rfl⟩
    · have hlt' : ¬ (k : Int) < (xs.length : Int) := by omega
      have hall : xs.take k = xs := List.take_of_length_le (by omega)
      rw [hall] at HS
      clear hall
      go_wp2
      go_ret
      have e : st = ⟨⟨textK xs⟩⟩ := mk_of HS.out
      exact ⟨ret_str e, rfl⟩
theorem rtext_nil (ao : Option Addr) (cap : Nat) (w : World) : Calls Try.prog 11 #[.slice ao 0 cap] w fun e w' => e = .returned (.string ⟨⟨textK []⟩⟩) ∧ w = w' := by
  go_enter Try.func11, Try.ntmps11
  go_wp2
  go_loopg [3, 4, 5] 0 (fun gk v3 v4 v5 wr => gk = 0 ∧ v3 = .string ⟨#[]⟩ ∧ v5 = .int .i64 0 ∧ wr = w)
  case atStart => exact ⟨rfl, rfl, rfl, rfl⟩
  case round =>
    obtain ⟨rfl, rfl, rfl, rfl⟩ := hrel
    go_wp2
    go_ret
    exact ⟨rfl, rfl⟩
end Go.Proofs.Ytpaenaofebdgiaa
