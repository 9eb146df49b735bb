/- What an instruction reads. Condition: at most 40 arguments. -/
import Derived.Test.YtplpjckkocccfaaIrL
import Derived.Maps.AppendAt
import Derived.Lib.SliceRun
namespace Go.Proofs.Ytplpjckkocccfaa
open Go.RowKit Go.Maps
set_option linter.unusedVariables false
set_option linter.unusedSimpArgs false
theorem info3 : (Try.prog.info? 3).map (fun i => (i.zero, i.size, i.bytes)) = some (some (.int .i64 0), 1, 8) := by kernel_rfl
/-- A slice of numbers that came in. -/
def Came (W : World) (v : Value) (xs : List Int) : Prop := (v = n0 ∧ xs = []) ∨ ∃ (ad : Addr) (cap : Nat), v = .slice (some ad) xs.length cap ∧ (xs ≠ [] → ad.block < W.heap.size) ∧ ∀ (j : Nat) (x : Int), xs[j]? = some x → W.cell? (ad.add j) = some (.int .i64 x)
theorem add_block (a : Addr) (j : Nat) : (a.add j).block = a.block := by unfold Addr.add; split <;> rfl
theorem Came.below {W W' : World} {v : Value} {xs : List Int} (h : Came W v xs) (hb : Below W.heap.size W W') : Came W' v xs := by
  rcases h with ⟨rfl, rfl⟩ | ⟨ad, cap, rfl, hlt, hc⟩
  · exact .inl ⟨rfl, rfl⟩
  · exact .inr ⟨ad, cap, rfl, fun h => Nat.lt_of_lt_of_le (hlt h) hb.size, fun j x hj => (hb.cell (p := ad.add j) (by rw [add_block]; exact hlt (by rintro rfl; simp at hj))).trans (hc j x hj)⟩
theorem row_cell {W : World} {base : Nat} {n : Nat} {v : Value} {xs : List Value} (h : W.ownsRow base 3 1 v n xs) (hn : n ≠ 0) :
    ∃ g cap, v = .slice (some ⟨g, 0, none⟩) n cap ∧ g < W.heap.size ∧ base ≤ g ∧ ∀ j u, xs[j]? = some u → W.cell? ⟨g, j, none⟩ = some u := by
  rcases h.2 with ⟨-, e⟩ | ⟨g, cap, cur, hv, hb, hg, hc, hm, -⟩
  · exact absurd e hn
  · refine ⟨g, cap, hv, (Array.getElem?_eq_some_iff.1 hg).1, hb, fun j u hu => ?_⟩
    have := h.cells (g := g) (by rw [hv]; rfl) j u hu
    unfold Addr.add at this
    split at this
    · rename_i hj; subst hj; exact this
    · simpa using this
theorem isRow_owns {W : World} {base n : Nat} {v : Value} {xs : List Int} (h : W.ownsRow base 3 1 v n (xs.map (Value.int .i64))) : IsRow W v xs := by
  have hn : n = xs.length := by have := h.1; simp at this; omega
  subst hn
  by_cases h0 : xs = []
  · subst h0
    rcases h.2 with ⟨rfl, -⟩ | ⟨g, cap, cur, rfl, -⟩
    · exact ⟨_, _, rfl, fun q => absurd rfl q⟩
    · exact ⟨_, _, rfl, fun q => absurd rfl q⟩
  · obtain ⟨g, cap, rfl, hg, -, hc⟩ := row_cell h (fun q => h0 (List.length_eq_zero_iff.1 q))
    exact ⟨_, _, rfl, fun _ => ⟨g, rfl, hg, fun j x hj => hc j _ (by rw [List.getElem?_map, hj]; rfl)⟩⟩
theorem ints_one (xs : List Int) : ∀ u ∈ xs.map (Value.int .i64), u.oneCell' = true := by
  intro u hu
  obtain ⟨x, -, rfl⟩ := List.mem_map.1 hu
  rfl
theorem came_news {W : World} {ad : Addr} {xs : List Int} (h : ∀ (j : Nat) (x : Int), xs[j]? = some x → W.cell? (ad.add j) = some (.int .i64 x)) : ∀ j u, (xs.map (Value.int .i64))[j]? = some u → W.cell? (ad.add j) = some u := by
  intro j u hu
  rw [List.getElem?_map] at hu
  cases hx : xs[j]? with
  | none => rw [hx] at hu; cases hu
  | some x => rw [hx] at hu; cases hu; exact h j x hx
theorem clone_i (xs : List Int) (v : Value) (w : World) (hv : Came w v xs) (hl : xs.length ≤ 40) : Calls Try.prog 21 #[v] w fun e w' => ∃ u, e = .returned u ∧ Hid (IsRow w' u xs) ∧ Hid (Below w.heap.size w w') := by
  have hq := fun (w : World) (a : Option Addr) (n c : Nat) => Lib.run_eql_slice_nil w 22 3 a n c 0 0 Try.underlying22
  rcases hv with ⟨rfl, rfl⟩ | ⟨ad, cap, rfl, hlt, hc⟩
  · go_enter Try.func21, Try.ntmps21
    go_wp2
    go_ret
    exact ⟨_, rfl, hid (isRow_nil _), hid (Below.refl _ _)⟩
  · obtain ⟨i0t, hti, hz0, hz1, hz2⟩ := info_parts info3
    have HN := hid (came_news (((show Came w _ xs from .inr ⟨ad, cap, rfl, hlt, hc⟩).below (below1 w (.cells #[] 3))) |> fun h => by
      rcases h with ⟨h, -⟩ | ⟨ad', cap', h, -, h2⟩
      · cases h
      · cases h; exact h2))
    have HO := hid (World.ownsRow_made (e := 3) (size := 1) (base := w.heap.size) w #[] 0 (Nat.le_refl _) (by unfold maxLen; omega) rfl)
    have HB := hid (below1 w (.cells #[] 3))
    obtain ⟨n, hn⟩ : ∃ n : Nat, xs.length = n := ⟨_, rfl⟩
    rw [hn] at hl ⊢
    have HL := hid hn
    clear hn hc hlt
    go_enter Try.func21, Try.ntmps21
    go_wp2_with (at_builtin; go_must (refine wpList_append_own_at _ rfl _ _ 22 rfl w.heap.size 3 i0t (.int .i64 0) 1 8 Try.underlying22 hti hz0 hz1 hz2 rfl (by decide) _ 0 [] rfl HO.out ad n cap (xs.map (Value.int .i64)) rfl (by rw [List.length_map, HL.out, Nat.mul_one]) HN.out (ints_one xs) (by unfold maxLen; omega) (by omega) (by simp) ?_); intro v' w1 hown hgrow hnil hblk)
    go_ret
    exact ⟨_, rfl, hid (isRow_owns hown), hid (HB.out.grown hgrow HB.out.size (by rintro k e; cases e; exact Nat.le_refl _))⟩
end Go.Proofs.Ytplpjckkocccfaa
