/- The chapter example comes out true. No conditions. -/
import Derived.Test.YtpaenaofebdgiaaTokU
namespace Go.Proofs.Ytpaenaofebdgiaa
open Go.RowKit
def aliveSrc : List UInt8 := [120, 45, 62, 121, 60, 61, 49, 48]
def aliveToks : List T := [⟨1, [120], 0, 1, 1, 0⟩, ⟨4, [45, 62], 0, 1, 2, 1⟩, ⟨1, [121], 0, 1, 4, 3⟩, ⟨4, [60, 61], 0, 1, 5, 4⟩, ⟨3, [49, 48], 10, 1, 7, 6⟩, ⟨5, [], 0, 1, 9, 8⟩]
theorem alive_scan : scanL aliveSrc = (aliveToks, none) := by kernel_rfl

/-- A row of tokens: its cells. -/
theorem row_cell {W : World} {base : Nat} {n : Nat} {v : Value} {xs : List Value} (h : W.ownsRow base 27 5 v n xs) (hn : n ≠ 0) :
    ∃ g cap, v = .slice (some ⟨g, 0, none⟩) n cap ∧ n ≤ cap ∧ cap ≤ maxLen ∧ base ≤ g ∧ ∀ j u, xs[j]? = some u → W.cell? ⟨g, j, none⟩ = some u := by
  rcases h.2 with ⟨-, e⟩ | ⟨g, cap, cur, hv, hb, hg, hc, hm, -⟩
  · exact absurd e hn
  · refine ⟨g, cap, hv, hc, hm, hb, fun j u hu => ?_⟩
    have := h.cells (g := g) (by rw [hv]; rfl) j u hu
    simpa [Addr.add] using (show W.cell? ((⟨g, 0, none⟩ : Addr).add j) = some u from this) |> fun q => by
      unfold Addr.add at q
      split at q
      · rename_i hj; subst hj; exact q
      · simpa using q

theorem scan_alive (w : World) : Calls Try.prog 14 #[.string ⟨#[120, 45, 62, 121, 60, 61, 49, 48]⟩] w fun e w1 =>
    ∃ g cap, e = .returned (.tuple #[.slice (some ⟨g, 0, none⟩) 6 cap, .agg #[.int .i64 0, .int .i64 0, .int .i64 0, .int .i64 0]]) ∧ 6 ≤ cap ∧ cap ≤ 9223372036854775807 ∧ Hid (Below w.heap.size w w1) ∧ Hid (w.heap.size ≤ g ∧ g < w1.heap.size) ∧
      (∀ o, (w1.alloc o).cell? ⟨g, 6, none⟩ = some (.string ⟨#[45, 62]⟩)) ∧ (∀ o, (w1.alloc o).cell? ⟨g, 16, none⟩ = some (.string ⟨#[60, 61]⟩)) ∧ (∀ o, (w1.alloc o).cell? ⟨g, 22, none⟩ = some (.int .i64 10)) ∧ (∀ o, (w1.alloc o).cell? ⟨g, 25, none⟩ = some (.int .i64 5)) ∧
      (∀ o, (w1.alloc o).cell? ⟨g, 28, none⟩ = some (.int .i64 1)) ∧ (∀ o, (w1.alloc o).cell? ⟨g, 29, none⟩ = some (.int .i64 9)) := by
  refine (scan_i ⟨#[120, 45, 62, 121, 60, 61, 49, 48]⟩ w (by decide)).mono ?_
  have hs : scanL (⟨#[120, 45, 62, 121, 60, 61, 49, 48]⟩ : ByteArray).data.toList = (aliveToks, none) := alive_scan
  rintro e w1 ⟨hb, ⟨hn, v, rfl, hown⟩ | ⟨d, hd, -⟩⟩
  · rw [hs] at hown
    obtain ⟨g, cap, rfl, h1, h2, h3, hc⟩ := row_cell hown (by decide)
    have hc' : ∀ j u, (List.flatMap tokCells (List.map elT aliveToks))[j]? = some u → ∀ o, (w1.alloc o).cell? ⟨g, j, none⟩ = some u := fun j u hu o => (World.grownBy_alloc w1 o none).cell (hc j u hu) (by simp)
    refine ⟨g, cap, rfl, h1, h2, hb, ⟨h3, (hown.lt g rfl).2⟩, hc' _ _ rfl, hc' _ _ rfl, hc' _ _ rfl, hc' _ _ rfl, hc' _ _ rfl, hc' _ _ rfl⟩
  · rw [hs] at hd; cases hd

set_option maxHeartbeats 4000000 in
theorem alive_i (w : World) : Calls Try.prog 5 #[] w fun e w' => e = .returned (.bool true) ∧ Below w.heap.size w w' := by
  go_enter Try.func5, Try.ntmps5
  go_wp2_with (go_at_call 14; refine (scan_alive _).mono ?_; rintro e w1 ⟨g, cap, rfl, h1, h2, hb, hg, k0, k1, k2, k3, k4, k5⟩)
  go_ret
  exact ⟨rfl, hb.out.trans ((Below.refl _ w1).alloc hb.out.size _)⟩
end Go.Proofs.Ytpaenaofebdgiaa
