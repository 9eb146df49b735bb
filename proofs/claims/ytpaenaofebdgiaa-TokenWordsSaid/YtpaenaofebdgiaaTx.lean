/- The text of tokens. Condition: at most 100000 tokens, a text of at most 2^47 bytes. -/
import Derived.Test.YtpaenaofebdgiaaTokY
import Derived.Test.YtpaenaofebdgiaaTokBb
import Derived.Test.YtpaenaofebdgiaaJoin
namespace Go.Proofs.Ytpaenaofebdgiaa
open Go.RowKit
set_option linter.unusedVariables false
set_option linter.unusedSimpArgs false
/-- A token as it lies in memory. -/
structure Tk where
  kind : Int
  tx : ByteArray
  num : Int
  line : Int
  col : Int
def tkCells (x : Tk) : List Value := [.int .i64 x.kind, .string x.tx, .int .i64 x.num, .int .i64 x.line, .int .i64 x.col]
theorem tk_get : ∀ (xs : List Tk) (i j : Nat) (x : Tk), xs[i]? = some x → j < 5 → (xs.flatMap tkCells)[i * 5 + j]? = (tkCells x)[j]?
  | [], i, j, x, h, _ => by simp at h
  | y :: r, 0, j, x, h, hj => by
    simp at h; subst h
    rw [List.flatMap_cons, List.getElem?_append_left (by simp [tkCells]; omega)]
    simp
  | y :: r, i + 1, j, x, h, hj => by
    simp at h
    rw [List.flatMap_cons, List.getElem?_append_right (by simp [tkCells]; omega)]
    have := tk_get r i j x h hj
    rw [show (i + 1) * 5 + j - (tkCells y).length = i * 5 + j by simp [tkCells]; omega]
    exact this
/-- A slice of tokens in memory. -/
def Lies (w : World) (g o : Nat) (xs : List Tk) : Prop := g < w.heap.size ∧ ∀ j u, (xs.flatMap tkCells)[j]? = some u → w.cell? ⟨g, o + j, none⟩ = some u
theorem Lies.below {w W : World} {g o : Nat} {xs : List Tk} (h : Lies w g o xs) (hb : Below w.heap.size w W) : Lies W g o xs :=
  ⟨Nat.lt_of_lt_of_le h.1 hb.size, fun j u hu => (hb.cell (p := ⟨g, o + j, none⟩) h.1).trans (h.2 j u hu)⟩
theorem Lies.at {w : World} {g o : Nat} {xs : List Tk} (h : Lies w g o xs) {i : Nat} {x : Tk} (hx : xs[i]? = some x) :
    w.cell? ⟨g, o + i * 5, none⟩ = some (.int .i64 x.kind) ∧ w.cell? ⟨g, o + i * 5 + 1, none⟩ = some (.string x.tx) ∧ w.cell? ⟨g, o + i * 5 + 2, none⟩ = some (.int .i64 x.num) ∧ w.cell? ⟨g, o + i * 5 + 3, none⟩ = some (.int .i64 x.line) ∧ w.cell? ⟨g, o + i * 5 + 4, none⟩ = some (.int .i64 x.col) := by
  have f := fun j u hj (hu : (tkCells x)[j]? = some u) => h.2 (i * 5 + j) u ((tk_get _ i j _ hx hj).trans hu)
  exact ⟨f 0 _ (by omega) rfl, f 1 _ (by omega) rfl, f 2 _ (by omega) rfl, f 3 _ (by omega) rfl, f 4 _ (by omega) rfl⟩
def strs (xs : List Tk) : List ByteArray := (xs.filter fun x => x.kind != 5).map (·.tx)
def textK (xs : List Tk) : List UInt8 := Lib.join ((strs xs).map (·.data.toList)) [32]
theorem strs_take {xs : List Tk} {k : Nat} {x : Tk} (h : xs[k]? = some x) : strs (xs.take (k + 1)) = strs (xs.take k) ++ if x.kind != 5 then [x.tx] else [] := by
  unfold strs
  rw [List.take_add_one, h, List.filter_append, List.map_append]
  cases hq : (x.kind != 5) <;> simp [List.filter_cons, hq]
theorem strs_len (xs : List Tk) (k : Nat) : (strs (xs.take k)).length ≤ k := by
  unfold strs
  rw [List.length_map]
  exact Nat.le_trans (List.length_filter_le _ _) (by rw [List.length_take]; omega)
theorem Try.info9 : (Try.prog.info? 9).map (fun i => (i.zero, i.size, i.bytes)) = some (some (.string ⟨#[]⟩), 1, 16) := by kernel_rfl
theorem row_below {A B : World} {base : Nat} {e : TypeId} {size n : Nat} {v : Value} {xs : List Value} (h : Below A.heap.size A B) (hr : A.ownsRow base e size v n xs) : B.ownsRow base e size v n xs := by
  refine ⟨hr.1, ?_⟩
  rcases hr.2 with q | ⟨g, cap, cur, hv, hb, hg, rest⟩
  · exact .inl q
  · exact .inr ⟨g, cap, cur, hv, hb, (h.block g (Array.getElem?_eq_some_iff.1 hg).1).trans hg, rest⟩
theorem str_new (W : World) (K : Obj) (s : ByteArray) : ∀ j u, [Value.string s][j]? = some u → ((W.alloc K).alloc (.cells #[.string s] 9)).cell? ((⟨W.heap.size + 1, 0, none⟩ : Addr).add j) = some u := by
  intro j u h
  have hb := (blk1 (heap_alloc_new (W.alloc K) (.cells #[.string s] 9))).1
  rw [World.size_alloc] at hb
  match j, h with
  | 0, h => simp at h; subst h; exact hb
  | n + 1, h => simp at h
theorem str_one (s : ByteArray) : ∀ u ∈ [Value.string s], u.oneCell' = true := by
  intro u hu; simp at hu; subst hu; rfl
theorem row_str {W : World} {base n : Nat} {v : Value} {xs : List Value} (h : W.ownsRow base 9 1 v n xs) :
    (v = .slice none 0 0 ∧ n = 0) ∨ ∃ g cap, v = .slice (some ⟨g, 0, none⟩) n cap ∧ n ≤ cap ∧ base ≤ g ∧ g < W.heap.size ∧ ∀ j u, xs[j]? = some u → W.cell? ⟨g, 0 + j, none⟩ = some u := by
  rcases h.2 with ⟨e, hn⟩ | ⟨g, cap, cur, hv, hb, hg, hc, hm, rest⟩
  · exact .inl ⟨e, by simpa using hn⟩
  · refine .inr ⟨g, cap, hv, hc, hb, (Array.getElem?_eq_some_iff.1 hg).1, fun j u hu => ?_⟩
    have := h.cells (g := g) (by rw [hv]; rfl) j u hu
    rw [Nat.zero_add]
    simpa [Addr.add] using (show W.cell? ((⟨g, 0, none⟩ : Addr).add j) = some u from this) |> fun q => by
      unfold Addr.add at q
      split at q
      · rename_i hj; subst hj; exact q
      · simpa using q
theorem text_none {xs : List Tk} (h : (strs xs).length = 0) : Ending.returned (.string ⟨#[]⟩) = .returned (.string ⟨⟨textK xs⟩⟩) := by
  unfold textK
  rw [List.eq_nil_of_length_eq_zero h]; rfl
theorem row_alloc_b {A : World} {base : Nat} {e : TypeId} {size n : Nat} {v : Value} {xs : List Value} (hr : A.ownsRow base e size v n xs) (k : Nat) (hk : A.heap.size ≤ k ∨ k < base) : v.ownBlock ≠ some k := fun q => by have := hr.lt k q; omega
theorem text_step {xs : List Tk} {k : Nat} {x : Tk} {w wr w4 : World} {K T : Obj} {v v' : Value} (HT : strs (xs.take (k + 1)) = strs (xs.take k) ++ if x.kind != 5 then [x.tx] else []) (h5 : (x.kind != 5) = true) (HB : Below w.heap.size w wr)
    (HO : wr.ownsRow w.heap.size 9 1 v (strs (xs.take k)).length ((strs (xs.take k)).map Value.string))
    (hown : w4.ownsRow w.heap.size 9 1 v' ((strs (xs.take k)).length + 1) ((strs (xs.take k)).map Value.string ++ [Value.string x.tx])) (hgrow : ((wr.alloc K).alloc T).grownBy w4 v.ownBlock) :
    w4.ownsRow w.heap.size 9 1 v' (strs (xs.take (k + 1))).length ((strs (xs.take (k + 1))).map Value.string) ∧ Below w.heap.size w w4 := by
  have hs := HB.size
  refine ⟨?_, ((HB.alloc hs _).alloc (by rw [World.size_alloc]; omega) _).grown hgrow (by simp only [World.size_alloc]; omega) (fun j q => by have := (HO.lt j q).1; omega)⟩
  rw [HT, if_pos h5, List.length_append, List.map_append]
  exact hown
set_option maxRecDepth 100000 in
set_option maxHeartbeats 8000000 in
theorem text_i (xs : List Tk) (g o cap : Nat) (w : World) (hL : Lies w g o xs) (hn : xs.length ≤ 100000) (hcap : xs.length ≤ cap) (hmax : cap ≤ 9223372036854775807) (hlen : (textK xs).length ≤ 140737488355328) :
    Calls Try.prog 10 #[.slice (some ⟨g, o, none⟩) xs.length cap] w fun e w' => e = .returned (.string ⟨⟨textK xs⟩⟩) ∧ Hid (Below w.heap.size w w') := by
  obtain ⟨i9, hi, hz0, hz1, hz2⟩ := info_parts Try.info9
  have HL := hid hL
  have HLEN := hid hlen
  clear hL hlen
  go_enter Try.func10, Try.ntmps10
  go_wp2
  go_loopg [3, 8] xs.length (fun gk v3 v8 wr => ∃ k : Nat, k ≤ xs.length ∧ gk = xs.length - k ∧ v8 = .int .i64 k ∧ Hid (wr.ownsRow w.heap.size 9 1 v3 (strs (xs.take k)).length ((strs (xs.take k)).map Value.string)) ∧ Hid (Below w.heap.size w wr))
  case atStart => exact ⟨0, Nat.zero_le _, rfl, rfl, hid (World.ownsRow_nil _ _ _ _), hid (Below.refl _ _)⟩
  case round =>
    obtain ⟨k, hk, rfl, rfl, HO, HB⟩ := hrel
    by_cases hlt : k < xs.length
    · have hlt' : (k : Int) < (xs.length : Int) := by omega
      obtain ⟨x, hx⟩ : ∃ x, xs[k]? = some x := ⟨_, List.getElem?_eq_getElem hlt⟩
      obtain ⟨c0, c1, c2, c3, c4⟩ := (HL.out.below HB.out).at hx
      have HT := hid (strs_take hx)
      clear hx
      cases h5 : (x.kind != 5)
      case false =>
        go_wp2
        go_roundg (xs.length - (k + 1))
        case measure => omega
        case rel => exact ⟨k + 1, by omega, rfl, rfl, hid (by rw [HT.out, if_neg (by rw [h5]; simp), List.append_nil]; exact HO.out.alloc _), hid (HB.out.alloc HB.out.size _)⟩
      case true =>
        have hle := strs_len xs k
        go_wp2_with (at_builtin; go_must (refine wpList_append_own _ rfl _ _ 37 rfl w.heap.size 9 i9 (.string ⟨#[]⟩) 1 16 Try.underlying37 hi hz0 hz1 hz2 rfl (by decide) _ _ _ rfl ((HO.out.alloc (.cells #[.int .i64 x.kind, .string x.tx, .int .i64 x.num, .int .i64 x.line, .int .i64 x.col] 27)).alloc _) ⟨wr.heap.size + 1, 0, none⟩ 1 1 [.string x.tx] rfl rfl (str_new _ _ _) (str_one _) (by unfold maxLen; omega) (by omega) (by simp only [World.size_alloc]; have := HB.out.size; omega) ?_); intro v' w4 hown hgrow _; have HX := hid (text_step HT.out h5 HB.out HO.out hown hgrow); clear hown hgrow)
        go_roundg (xs.length - (k + 1))
        case measure => omega
        case rel => exact ⟨k + 1, by omega, rfl, rfl, hid HX.out.1, hid HX.out.2⟩
    · have hlt' : ¬ (k : Int) < (xs.length : Int) := by omega
      have hkn : k = xs.length := by omega
      have hall : xs.take k = xs := by rw [hkn]; exact List.take_length
      rw [hall] at HO
      clear hall hkn
      rcases row_str HO.out with ⟨rfl, h0⟩ | ⟨g2, cap2, rfl, hc2, hb2, hg2, hcell⟩
      · have H0 := hid h0
        clear h0
        go_wp2_with (go_at_call 20; refine (Try.strings_Join_none _ _ _ _).mono ?_; rintro e w' ⟨rfl, rfl⟩)
        go_ret
        exact ⟨text_none H0.out, HB.out⟩
      · have HC := hid hcell
        have hN := strs_len xs xs.length
        rw [List.take_length] at hN
        have hz : (strs xs).length = ((strs xs)).length := rfl
        have HJ := hid (fun w' (hw' : w' = wr) => Try.strings_Join g2 0 cap2 (strs xs) ⟨#[32]⟩ w' (fun j x h => by subst hw'; exact HC.out j _ (by rw [List.getElem?_map, h]; rfl)) (by subst hw'; exact hg2) (by omega) hc2 HLEN.out)
        clear hcell
        go_wp2_with (go_at_call 20; refine (HJ.out _ rfl).mono ?_; rintro e w' ⟨rfl, hb⟩)
        go_ret
        exact ⟨rfl, HB.out.trans (hb.mono HB.out.size)⟩
theorem text_nil (ao : Option Addr) (cap : Nat) (w : World) :
    Calls Try.prog 10 #[.slice ao 0 cap] w fun e w' => e = .returned (.string ⟨⟨textK []⟩⟩) ∧ Hid (Below w.heap.size w w') := by
  go_enter Try.func10, Try.ntmps10
  go_wp2
  go_loopg [3, 8] 0 (fun gk v3 v8 wr => gk = 0 ∧ v3 = .slice none 0 0 ∧ v8 = .int .i64 0 ∧ wr = w)
  case atStart => exact ⟨rfl, rfl, rfl, rfl⟩
  case round =>
    obtain ⟨rfl, rfl, rfl, rfl⟩ := hrel
    go_wp2_with (go_at_call 20; refine (Try.strings_Join_none _ _ _ _).mono ?_; rintro e w' ⟨rfl, rfl⟩)
    go_ret
    exact ⟨rfl, Below.refl _ _⟩
end Go.Proofs.Ytpaenaofebdgiaa
