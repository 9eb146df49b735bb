/- Several rows of bits, made. No conditions but sizes. -/
import Derived.Test.YtlbcinanpnjjjaaDoorLvC
import Derived.Test.YtlbcinanpnjjjaaDoorLvA
namespace Go.Proofs.YtlbcinanpnjjjaaDoor
open Go.RowKit Go.Maps
set_option linter.unusedVariables false
set_option linter.unusedSimpArgs false
theorem info71 : (Tryd.prog.info? 78).map (fun i => (i.zero, i.size, i.bytes)) = some (some (.int .u64 0), 1, 8) := by kernel_rfl
theorem info58 : (Tryd.prog.info? 63).map (fun i => (i.zero, i.size, i.bytes)) = some (some (.slice none 0 0), 1, 24) := by kernel_rfl
/-- The first k of n rows, each in a block of its own. -/
structure RowsM (W : World) (T n k nw base : Nat) (g : Nat → Nat) (m : Nat → Nat → Bool) : Prop where
  blk : ∃ cs : Array Value, W.heap[T]? = some (.cells cs 63 (0, 0)) ∧ cs.size = n ∧ ∀ i, i < k → cs[i]? = some (.slice (some ⟨g i, 0, none⟩) nw nw)
  row : ∀ i, i < k → BitM W (g i) nw (m i)
  inj : ∀ i j, i < k → j < k → g i = g j → i = j
  lo : ∀ i, i < k → base ≤ g i
  loT : base ≤ T
section
variable {W W' : World} {T n k nw base : Nat} {g g' : Nat → Nat} {m m' : Nat → Nat → Bool}
theorem RowsM.lt (h : RowsM W T n k nw base g m) : T < W.heap.size := by
  obtain ⟨cs, h1, -⟩ := h.blk
  exact (Array.getElem?_eq_some_iff.1 h1).1
theorem RowsM.cell (h : RowsM W T n k nw base g m) {i : Nat} (hi : i < k) : W.cell? ⟨T, i, none⟩ = some (.slice (some ⟨g i, 0, none⟩) nw nw) := by
  obtain ⟨cs, h1, h2, h3⟩ := h.blk
  rw [cells_at h1 i]
  exact h3 i hi
theorem RowsM.at (h : RowsM W T n k nw base g m) (hT : W'.heap[T]? = W.heap[T]?) (hv : ∀ i, i < k → W'.heap[g i]? = W.heap[g i]?) : RowsM W' T n k nw base g m := by
  obtain ⟨cs, h1, h2⟩ := h.blk
  exact ⟨⟨cs, hT.trans h1, h2⟩, fun i hi => (h.row i hi).at (hv i hi), h.inj, h.lo, h.loT⟩
theorem RowsM.later (h : RowsM W T n k nw base g m) (hb : Below W.heap.size W W') : RowsM W' T n k nw base g m :=
  h.at (hb.block _ h.lt) (fun i hi => hb.block _ (h.row i hi).lt)
theorem RowsM.neT (h : RowsM W T n k nw base g m) {i : Nat} (hi : i < k) : T ≠ g i := by
  obtain ⟨cs, h1, -⟩ := h.blk
  exact (h.row i hi).ne h1 (by decide)
/-- Another row's block is written. -/
theorem RowsM.keep {q : Nat} (h : RowsM W T n k nw base g m) (hq : ∀ i, i < k → g i ≠ q) (hT : T ≠ q) (hk : Kept q W W') : RowsM W' T n k nw base g m :=
  h.at (hk.block _ hT) (fun i hi => hk.block _ (hq i hi))
/-- One of its rows is written. -/
theorem RowsM.set {i : Nat} {f : Nat → Bool} (h : RowsM W T n k nw base g m) (hi : i < k) (hk : Kept (g i) W W') (hf : BitM W' (g i) nw f) : RowsM W' T n k nw base g (upd m i f) := by
  obtain ⟨cs, h1, h2⟩ := h.blk
  refine ⟨⟨cs, (hk.block _ (h.neT hi)).trans h1, h2⟩, fun j hj => ?_, h.inj, h.lo, h.loT⟩
  by_cases e : j = i
  · subst e; rw [upd_at]; exact hf
  · rw [upd_ne _ _ e]
    exact (h.row j hj).at (hk.block _ (fun q => e (h.inj j i hj hi q)))
theorem RowsM.as (h : RowsM W T n k nw base g m) (he : ∀ i v, i < k → v < 64 * nw → m i v = m' i v) : RowsM W T n k nw base g m' :=
  ⟨h.blk, fun i hi => (h.row i hi).as (he i · hi), h.inj, h.lo, h.loT⟩
/-- One row more. -/
theorem RowsM.push {q : Nat} (h : RowsM W T n k nw base g m) (hk : k < n) (hb : Below W.heap.size W W') (hq : W.heap.size ≤ q) (hr : BitM W' q nw (m k)) : RowsM (W'.setCell ⟨T, k, none⟩ (.slice (some ⟨q, 0, none⟩) nw nw)) T n (k + 1) nw base (fun i => if i = k then q else g i) m := by
  have h2 := h.later hb
  have hTl := h.lt
  obtain ⟨cs, p1, p2, p3⟩ := h2.blk
  have hne : ∀ a, a ≠ T → (W'.setCell ⟨T, k, none⟩ (.slice (some ⟨q, 0, none⟩) nw nw)).heap[a]? = W'.heap[a]? := fun a ha => Below.heap_setCell _ _ _ _ ha
  refine ⟨⟨_, set_here p1 k _, by simp [p2], fun i hi => ?_⟩, fun i hi => ?_, fun i j hi hj e => ?_, fun i hi => ?_, h.loT⟩
  · rw [Array.getElem?_setIfInBounds]
    by_cases e : k = i
    · subst e; simp [p2, hk]
    · rw [if_neg e, p3 i (by omega), if_neg (fun q => e q.symm)]
  · by_cases e : i = k
    · subst e
      simp only [if_true]
      exact hr.at (hne q (by omega))
    · rw [if_neg e]
      exact (h2.row i (by omega)).at (hne _ (fun e2 => h2.neT (i := i) (by omega) e2.symm))
  · by_cases ei : i = k <;> by_cases ej : j = k
    · omega
    · simp only [ei, if_true, if_neg ej] at e
      have := (h.row j (by omega)).lt
      omega
    · simp only [ej, if_true, if_neg ei] at e
      have := (h.row i (by omega)).lt
      omega
    · simp only [if_neg ei, if_neg ej] at e
      exact h.inj i j (by omega) (by omega) e
  · have := h.loT
    by_cases e : i = k
    · simp only [e, if_true]; omega
    · rw [if_neg e]; exact h.lo i (by omega)
theorem RowsM.any (h : RowsM W T n k nw base g m) {i : Nat} (hi : i < n) : ∃ v, W.cell? ⟨T, i, none⟩ = some v := by
  obtain ⟨cs, h1, h2, -⟩ := h.blk
  exact ⟨cs[i]'(by omega), by rw [cells_at h1 i, Array.getElem?_eq_getElem]⟩
theorem RowsM.soft (h : RowsM W T n k nw base g m) (i : Nat) : W.frozen? ⟨T, i, none⟩ = false := by
  obtain ⟨cs, h1, -⟩ := h.blk
  exact frozen_no h1 i
end
/-- How many words V numbers take. -/
def wordsN (V : Nat) : Nat := (V + 63) / 64
theorem words_le (V : Nat) : V ≤ 64 * wordsN V := by unfold wordsN; omega
set_option maxRecDepth 100000 in
set_option maxHeartbeats 4000000 in
theorem new_f (V : Nat) (w : World) (hV : V < 1000000) :
    Calls Tryd.prog 41 #[.int .i64 V] w fun e w' => ∃ g, e = .returned (.slice (some ⟨g, 0, none⟩) (wordsN V) (wordsN V)) ∧ Hid (BitM w' g (wordsN V) (fun _ => false)) ∧ Hid (w.heap.size ≤ g) ∧ Hid (Below w.heap.size w w') := by
  obtain ⟨i0t, hti, hz0, hz1, hz2⟩ := info_parts info71
  obtain ⟨nw, hnw⟩ : ∃ nw, wordsN V = nw := ⟨_, rfl⟩
  have hn9 : nw ≤ 20000 := by unfold wordsN at hnw; omega
  have HM : Hid (i0t.bytes * nw ≤ 281474976710656) := hid (by rw [hz2]; omega)
  have HM3 : Hid (nw ≤ maxLen) := hid (by unfold maxLen; omega)
  have he : ((V : Int) + 64 - 1) / 64 = (nw : Int) := by unfold wordsN at hnw; omega
  rw [hnw]
  clear hnw
  go_enter Tryd.func41, Tryd.ntmps41
  go_wp2_with (at_make; refine wpList_make_full _ rfl _ _ 63 rfl w.heap.size 78 i0t (.int .u64 0) 1 Tryd.underlying63 hti hz0 hz1 .i64 .i64 (((V : Int) + 64 - 1) / 64) (((V : Int) + 64 - 1) / 64) nw rfl rfl he he HM.out HM3.out (Nat.le_refl _) ?_; intro w1 hown hgrow
               have HB1 := hid ((Below.refl _ w).grown hgrow (Nat.le_refl _) (by rintro k e; cases e))
               have HR1 := hid (BitM.made hown)
               clear hown hgrow)
  go_ret
  exact ⟨_, rfl, HR1, hid (Nat.le_refl _), HB1⟩
set_option maxRecDepth 100000 in
set_option maxHeartbeats 8000000 in
theorem several_f (n V : Nat) (w : World) (hn : n < 1000000) (hV : V < 1000000) :
    Calls Tryd.prog 22 #[.int .i64 n, .int .i64 V] w fun e w' => ∃ T g, e = .returned (.slice (some ⟨T, 0, none⟩) n n) ∧ Hid (RowsM w' T n n (wordsN V) w.heap.size g (fun _ _ => false)) ∧ Hid (Below w.heap.size w w') := by
  obtain ⟨i0t, hti, hz0, hz1, hz2⟩ := info_parts info58
  have HM : Hid (i0t.bytes * n ≤ 281474976710656) := hid (by rw [hz2]; omega)
  have HM3 : Hid (n ≤ maxLen) := hid (by unfold maxLen; omega)
  have HN := hid hn
  have HNW := hid (fun W => new_f V W hV)
  obtain ⟨nw, hnw⟩ : ∃ nw, wordsN V = nw := ⟨_, rfl⟩
  rw [hnw] at HNW ⊢
  clear hn hV hnw
  go_enter Tryd.func22, Tryd.ntmps22
  go_wp2_with (at_make; refine wpList_make_full _ rfl _ _ 57 rfl w.heap.size 63 i0t (.slice none 0 0) 1 Tryd.underlying57 hti hz0 hz1 .i64 .i64 (n : Int) (n : Int) n rfl rfl rfl rfl HM.out HM3.out (Nat.le_refl _) ?_; intro w1 hown hgrow
               have HB1 := hid ((Below.refl _ w).grown hgrow (Nat.le_refl _) (by rintro k e; cases e))
               have HR1 : Hid (RowsM w1 w.heap.size n 0 nw w.heap.size (fun _ => 0) (fun _ _ => false)) := hid (by
                 refine ⟨?_, fun i hi => absurd hi (by omega), fun i j hi => absurd hi (by omega), fun i hi => absurd hi (by omega), Nat.le_refl _⟩
                 rcases hown.2 with ⟨e0, -⟩ | ⟨g', cap, cur, e0, -, h2, hn, hc, hs, ht⟩
                 · simp at e0
                 · injection e0 with e1 e2 e3
                   injection e1 with e1
                   injection e1 with e1
                   subst e1 e3
                   exact ⟨cur, h2, by omega, fun i hi => absurd hi (by omega)⟩)
               clear hown hgrow)
  obtain ⟨T, hT⟩ : ∃ T, w.heap.size = T := ⟨_, rfl⟩
  rw [hT] at HR1 HB1 ⊢
  have HTT := hid hT
  clear hT HM HM3
  go_loopg [11] n (fun gk v11 wr => ∃ (i : Nat) (g : Nat → Nat), i ≤ n ∧ gk = n - i ∧ v11 = .int .i64 i ∧ Hid (RowsM wr T n i nw T g (fun _ _ => false)) ∧ Hid (Below T w wr))
  case atStart => exact ⟨0, _, by omega, by omega, rfl, HR1, HB1⟩
  case round =>
    clear HR1 HB1
    obtain ⟨i, g, hi, rfl, rfl, HR, HB⟩ := hrel
    have n9 := HN.out
    by_cases hin : i < n
    · have hin' : (i : Int) < (n : Int) := by omega
      have i0 : (0 : Int) ≤ (i : Int) := by omega
      have HI := hid hin
      go_wp2_with (go_at_call 41; go_must (refine (HNW.out _).mono ?_); rintro e w8 ⟨q, rfl, hr, hq, hb⟩
                   have HR8 := hid (HR.out.push HI.out hb.out hq.out hr.out)
                   have hf8 := (HR.out.later hb.out).soft i
                   obtain ⟨old, hc8⟩ := (HR.out.later hb.out).any HI.out
                   have HB8 := hid ((after HB.out hb.out (Nat.le_of_lt HR.out.lt |> fun h => by have := HR.out.lt; omega)).setCell (p := ⟨T, i, none⟩) (Nat.le_refl _) (.slice (some ⟨q, 0, none⟩) nw nw))
                   clear hr hq hb)
      go_roundg (n - (i + 1))
      case measure => omega
      case rel => exact ⟨i + 1, _, by omega, rfl, rfl, HR8, HB8⟩
    · have hin' : ¬ (i : Int) < (n : Int) := by omega
      obtain rfl : i = n := by omega
      go_wp2
      go_ret
      exact ⟨T, rfl, ⟨g, by rw [HTT.out]; exact HR⟩, by rw [HTT.out]; exact HB⟩
end Go.Proofs.YtlbcinanpnjjjaaDoor
