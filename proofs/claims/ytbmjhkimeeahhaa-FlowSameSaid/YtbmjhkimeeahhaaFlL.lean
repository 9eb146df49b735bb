/- The functions that an order's walk calls, and its list. Condition: fewer than a million. -/
import Derived.Test.YtbmjhkimeeahhaaFlK
import Derived.Test.YtbmjhkimeeahhaaFlH
namespace Go.Proofs.Ytbmjhkimeeahhaa
open Go.RowKit Go.Maps
set_option linter.unusedVariables false
set_option linter.unusedSimpArgs false
/-- What was left, so far, in a list of the order's own. -/
def OrdJ (b0 : Nat) (wB : World) (l : List Nat) (W : World) : Prop :=
  Below b0 wB W ∧ ∃ v, W.heap[b0]? = some (.cells #[v] 27 (0, 0)) ∧ W.ownsRow (b0 + 1) 3 1 v l.length (natV l)
def OrdF (b0 : Nat) (W : World) (k : Nat) : Prop := k = b0 ∨ ∃ v, W.heap[b0]? = some (.cells #[v] 27 (0, 0)) ∧ v.ownBlock = some k
theorem ord_cal (b0 B0 N0 : Nat) (wB : World) (h0 : b0 ≤ B0) (hN : N0 ≤ b0) : Cal B0 N0 (fun _ l W => OrdJ b0 wB l W) (OrdF b0) := by
  refine ⟨fun {s l A B} hj hb hk => ?_, fun {s l A k} hj hf => ?_⟩
  · obtain ⟨h1, v, h2, h3⟩ := hj
    have hb0 : B.heap[b0]? = A.heap[b0]? := hk b0 (Array.getElem?_eq_some_iff.1 h2).1 (.inl rfl)
    refine ⟨⟨h1.trans (hb.mono h0), v, hb0.trans h2, row_at h3 (fun g q => hk g (row_lt h3 q).2 (.inr ⟨v, h2, q⟩))⟩, fun k => ?_⟩
    unfold OrdF
    rw [hb0]
  · obtain ⟨h1, v, h2, h3⟩ := hj
    rcases hf with rfl | ⟨v', h4, h5⟩
    · exact ⟨hN, (Array.getElem?_eq_some_iff.1 h2).1⟩
    · rw [h2] at h4
      cases h4
      have := row_lt h3 h5
      exact ⟨by omega, this.2⟩
theorem meet_f (k : Int) (w : World) : Calls Try.prog 31 #[.int .i64 k] w fun e w' => e = .returned (.bool true) ∧ w = w' := by
  go_enter Try.func31, Try.ntmps31
  go_wp2
  go_ret
  exact ⟨rfl, rfl⟩
theorem rest_f (k : Int) (w : World) : Calls Try.prog 30 #[.int .i64 k] w fun e w' => (∃ v, e = .returned v) ∧ w = w' := by
  go_enter Try.func30, Try.ntmps30
  go_wp2
  go_end0
  exact ⟨⟨_, rfl⟩, rfl⟩
theorem own_slice {W : World} {base n e size : Nat} {v : Value} {xs : List Value} (h : W.ownsRow base e size v n xs) : ∃ A c, v = .slice A n c := by
  rcases h.2 with ⟨rfl, rfl⟩ | ⟨g, cap, cur, rfl, -⟩ <;> exact ⟨_, _, rfl⟩
theorem ord_box {b0 : Nat} {wB W W1 W2 : World} {l : List Nat} {v : Value} (hj : OrdJ b0 wB l W) (hv : W.heap[b0]? = some (.cells #[v] 27 (0, 0))) (h1 : Below W.heap.size W W1) (hg : W1.grownBy W2 v.ownBlock) : W2.heap[b0]? = some (.cells #[v] 27 (0, 0)) := by
  obtain ⟨hb, v2, h2, h3⟩ := hj
  rw [hv] at h2
  cases h2
  have hb0 := (Array.getElem?_eq_some_iff.1 hv).1
  rw [hg.block b0 (by have := h1.size; omega) (fun q => by have := (row_lt h3 q.symm).1; omega), h1.block b0 hb0]; exact hv
theorem ord_push {b0 q : Nat} {wB W W1 W2 : World} {l : List Nat} {v v' : Value} {k : Nat} (hq : l.length = q) (hj : OrdJ b0 wB l W) (hv : W.heap[b0]? = some (.cells #[v] 27 (0, 0))) (h1 : Below W.heap.size W W1)
    (hown : W2.ownsRow (b0 + 1) 3 1 v' (q + 1) (natV l ++ [.int .i64 k])) (hg : W1.grownBy W2 v.ownBlock) (hbl : v'.ownBlock = v.ownBlock ∨ v'.ownBlock = some W1.heap.size) :
    OrdJ b0 wB (l ++ [k]) (W2.setCell ⟨b0, 0, none⟩ v') ∧ CalS (OrdF b0) W (W2.setCell ⟨b0, 0, none⟩ v') := by
  subst hq
  obtain ⟨hb, v2, h2, h3⟩ := hj
  rw [hv] at h2
  cases h2
  have hb0 := (Array.getElem?_eq_some_iff.1 hv).1
  have hvb : ∀ g, v.ownBlock = some g → b0 + 1 ≤ g ∧ g < W.heap.size := fun g q => row_lt h3 q
  have hv0 : W2.heap[b0]? = some (.cells #[v] 27 (0, 0)) := by
    rw [hg.block b0 (by have := h1.size; omega) (fun q => by have := hvb b0 q.symm; omega), h1.block b0 hb0]; exact hv
  have hs : (W2.setCell ⟨b0, 0, none⟩ v').heap[b0]? = some (.cells #[v'] 27 (0, 0)) := set_here hv0 0 v'
  have hne : ∀ i, i ≠ b0 → (W2.setCell ⟨b0, 0, none⟩ v').heap[i]? = W2.heap[i]? := fun i hi => Below.heap_setCell _ _ _ _ hi
  have hsz : (W2.setCell ⟨b0, 0, none⟩ v').heap.size = W2.heap.size := by simp [World.setCell]
  refine ⟨⟨?_, v', hs, ?_⟩, ⟨?_, ?_, ?_, ?_, fun k hk hf => ?_, fun k hf => ?_⟩⟩
  · have := (hb.trans (h1.mono (by omega))).grown hg (by have := h1.size; omega) (fun k q => by have := hvb k q; omega)
    exact this.setCell (p := ⟨b0, 0, none⟩) (Nat.le_refl _) _
  · rw [List.length_append, show natV (l ++ [k]) = natV l ++ [.int .i64 k] by simp [natV]]
    refine row_at hown (fun g q => hne g (fun e => ?_))
    have := (row_lt hown q).1
    omega
  · exact hg.os.trans h1.os
  · exact hg.tape.trans h1.tape
  · exact hg.output.trans h1.output
  · rw [hsz]; exact Nat.le_trans h1.size hg.size
  · rw [hne k (fun e => hf (.inl e)), hg.block k (by have := h1.size; omega) (fun q => hf (.inr ⟨v, hv, q.symm⟩)), h1.block k hk]
  · rcases hf with rfl | ⟨v2, h4, h5⟩
    · exact .inl (.inl rfl)
    · rw [hs] at h4
      cases h4
      rcases hbl with e | e
      · exact .inl (.inr ⟨v, hv, e ▸ h5⟩)
      · rw [e] at h5
        cases h5
        exact .inr h1.size
set_option maxRecDepth 100000 in
set_option maxHeartbeats 4000000 in
theorem leave_f (b0 : Nat) (wB : World) (l : List Nat) (k : Nat) (w : World) (hj : OrdJ b0 wB l w) (hl : l.length < 1000000) :
    Calls Try.prog 32 #[.int .i64 k, .pointer (some ⟨b0, 0, none⟩)] w fun e w' => (∃ v, e = .returned v) ∧ Hid (OrdJ b0 wB (l ++ [k]) w' ∧ CalS (OrdF b0) w w') := by
  have hj' := hj
  obtain ⟨-, v, hv, hr⟩ := hj'
  obtain ⟨A, c, rfl⟩ := own_slice hr
  obtain ⟨i3t, hti, hz0, hz1, hz2⟩ := info_parts info3
  have HJ := hid hj
  have HV := hid hv
  have HR := hid hr
  have hc := cells_at hv
  have hb0 := (Array.getElem?_eq_some_iff.1 hv).1
  obtain ⟨q, hq⟩ : ∃ q, l.length = q := ⟨_, rfl⟩
  have HQ := hid hq
  rw [hq] at HR HV hc hl
  clear hj hv hr hq
  have hfz := frozen_no HV.out 0
  go_enter Try.func32, Try.ntmps32
  go_wp2_with (at_builtin; go_must (refine wpList_append_own_at _ rfl _ _ 27 rfl (b0 + 1) 3 i3t (.int .i64 0) 1 8 Try.underlying27 hti hz0 hz1 hz2 rfl (by decide) _ q (natV l) rfl (HR.out.alloc _) ⟨w.heap.size, 0, none⟩ 1 1 [.int .i64 k] rfl rfl (one_at _ _ _ rfl) (by intro u hu; simp at hu; subst hu; rfl) (by unfold maxLen; omega) (by omega) (by simp; omega) ?_); intro v9 w9 hown9 hgrow9 hnil9 hblk9
               have HP := hid (ord_push HQ.out HJ.out HV.out (below1 _ _) hown9 hgrow9 hblk9)
               have HV9 := hid (ord_box HJ.out HV.out (below1 _ _) hgrow9)
               obtain ⟨A9, c9, rfl⟩ := own_slice hown9
               have hc9 := cells_at HV9.out
               have hf9 := frozen_no HV9.out 0
               clear hown9 hgrow9 hnil9 hblk9)
  go_end0
  exact ⟨⟨_, rfl⟩, HP⟩
end Go.Proofs.Ytbmjhkimeeahhaa
