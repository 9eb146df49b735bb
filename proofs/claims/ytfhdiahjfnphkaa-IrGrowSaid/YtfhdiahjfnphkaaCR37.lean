/- What stands while Right goes on. No conditions. -/
import Derived.Test.YtfhdiahjfnphkaaCR28
import Derived.Test.YtfhdiahjfnphkaaCR34
import Derived.Test.YtfhdiahjfnphkaaCR35
import Derived.Test.YtfhdiahjfnphkaaCR36
namespace Go.Proofs.Ytfhdiahjfnphkaa
open Go.RowKit Go.Maps Go.Shelf
set_option linter.unusedVariables false
set_option linter.unusedSimpArgs false
attribute [local go_sem] Oper.semAt_some
abbrev namesL (ss : List StD) : List ByteArray := ss.map (·.nm)
abbrev modV (sa ca : Option Addr) (n m sc cc : Nat) : Array Value := #[.slice sa n sc, .slice ca m cc]
/-- What stands while Right goes on: the module's box, the answer's, the judge, its map. -/
structure RG (w : World) (ss : List StD) (cs : List CoD) (sa ca : Option Addr) (sc cc B k : Nat) (W : World) : Prop where
  below : Below w.heap.size w W
  low : w.heap.size + 1 < B
  t1 : W.heap[w.heap.size]? = some (.cells (modV sa ca ss.length cs.length sc cc) 25 (0, 0))
  t2 : W.heap[w.heap.size + 1]? = some (.cells #[.int .i64 0] 41 (0, 0))
  j : ∃ v3 v4 v5 v6 v7 v8 v9 v10, W.heap[B + 1]? = some (.cells (jV sa ca ss.length cs.length sc cc B v3 v4 v5 v6 v7 v8 v9 v10) 70 (0, 0))
  p : W.heap[B + 2]? = some (.cells #[.pointer (some ⟨B + 1, 0, none⟩)] 67 (0, 0))
  m : W.ownsMap Try.prog 9 (plainElem (H := Unit) Try.prog 3) B k (mapN (namesL ss) k)
section
variable {w : World} {ss : List StD} {cs : List CoD} {sa ca : Option Addr} {sc cc B k : Nat}
theorem RG.size {W : World} (h : RG w ss cs sa ca sc cc B k W) : B + 3 ≤ W.heap.size := (Array.getElem?_eq_some_iff.1 h.p).1
theorem RG.step {W W' : World} (h : RG w ss cs sa ca sc cc B k W) (hb : Below w.heap.size w W') (hk : ∀ i, i < B + 3 → W'.heap[i]? = W.heap[i]?) : RG w ss cs sa ca sc cc B k W' := by
  have hl := h.low
  obtain ⟨v3, v4, v5, v6, v7, v8, v9, v10, hj⟩ := h.j
  refine ⟨hb, h.low, (hk _ (by omega)).trans h.t1, (hk _ (by omega)).trans h.t2, ⟨v3, v4, v5, v6, v7, v8, v9, v10, (hk _ (by omega)).trans hj⟩, (hk _ (by omega)).trans h.p, owns_keep h.m (hk _ (by omega))⟩
theorem RG.later {W W' : World} (h : RG w ss cs sa ca sc cc B k W) (hb : Below W.heap.size W W') : RG w ss cs sa ca sc cc B k W' :=
  h.step (after h.below hb h.below.size) (fun i hi => hb.block i (by have := h.size; omega))
theorem RG.own (N : Nat) (hN : B + 3 ≤ N) : OwnFrom N (fun (_ : List Unit) W => RG w ss cs sa ca sc cc B k W) :=
  fun s W W' row hs hg hr => hs.step (hs.below.grown hg hs.below.size (fun i e => by have := hs.size; have := hs.low; have := (hr i e).1; omega)) (fun i hi => hg.block i (by have := hs.size; omega) (fun e => by have := (hr i e.symm).1; omega))
theorem RG.drew {W : World} (h : RG w ss cs sa ca sc cc B k W) : RG w ss cs sa ca sc cc B k W.drew := h.later (below_drew1 W)
/-- One name more. -/
theorem RG.put {W W' : World} (h : RG w ss cs sa ca sc cc B k W) (hg : W.grownBy W' (some B)) (hm : W'.ownsMap Try.prog 9 (plainElem (H := Unit) Try.prog 3) B (k + 1) (mapN (namesL ss) (k + 1))) : RG w ss cs sa ca sc cc B (k + 1) W' := by
  have hl := h.low
  have hs := h.size
  have hk : ∀ i, i < B + 3 → i ≠ B → W'.heap[i]? = W.heap[i]? := fun i hi hne => hg.block i (by omega) (fun e => by cases e; exact hne rfl)
  obtain ⟨v3, v4, v5, v6, v7, v8, v9, v10, hj⟩ := h.j
  refine ⟨h.below.grown hg h.below.size (fun i e => by cases e; omega), hl, (hk _ (by omega) (by omega)).trans h.t1, (hk _ (by omega) (by omega)).trans h.t2, ⟨v3, v4, v5, v6, v7, v8, v9, v10, (hk _ (by omega) (by omega)).trans hj⟩, (hk _ (by omega) (by omega)).trans h.p, hm⟩
end
theorem RG.start (w : World) (ss : List StD) (cs : List CoD) (sa ca : Option Addr) (sc cc : Nat) (W : World) (hb : Below w.heap.size w W) (hl : w.heap.size + 1 < W.heap.size)
    (h1 : W.heap[w.heap.size]? = some (.cells (modV sa ca ss.length cs.length sc cc) 25 (0, 0))) (h2 : W.heap[w.heap.size + 1]? = some (.cells #[.int .i64 0] 41 (0, 0))) :
    RG w ss cs sa ca sc cc W.heap.size 0 (((W.alloc (.map #[] 0)).alloc (.cells (jV sa ca ss.length cs.length sc cc W.heap.size (.string ⟨#[]⟩) (.int .i64 0) (.slice none 0 0) (.bool false) (.string ⟨#[]⟩) (.int .i64 0) (.slice none 0 0) (.slice none 0 0)) 70)).alloc (.cells #[.pointer (some ⟨W.heap.size + 1, 0, none⟩)] 67)) := by
  have mX := World.ownsMap_made W Try.prog 9 (plainElem (H := Unit) Try.prog 3)
  have c1 := old_block (below2 (W.alloc (.map #[] 0)) (.cells (jV sa ca ss.length cs.length sc cc W.heap.size (.string ⟨#[]⟩) (.int .i64 0) (.slice none 0 0) (.bool false) (.string ⟨#[]⟩) (.int .i64 0) (.slice none 0 0) (.slice none 0 0)) 70) (.cells #[.pointer (some ⟨W.heap.size + 1, 0, none⟩)] 67)) (by simp) (heap_alloc_new W (.map #[] 0))
  have c2 := lay (below1 _ (.cells #[.pointer (some ⟨W.heap.size + 1, 0, none⟩)] 67)) (heap_alloc_new (W.alloc (.map #[] 0)) (.cells (jV sa ca ss.length cs.length sc cc W.heap.size (.string ⟨#[]⟩) (.int .i64 0) (.slice none 0 0) (.bool false) (.string ⟨#[]⟩) (.int .i64 0) (.slice none 0 0) (.slice none 0 0)) 70))
  have c3 := heap_alloc_new ((W.alloc (.map #[] 0)).alloc (.cells (jV sa ca ss.length cs.length sc cc W.heap.size (.string ⟨#[]⟩) (.int .i64 0) (.slice none 0 0) (.bool false) (.string ⟨#[]⟩) (.int .i64 0) (.slice none 0 0) (.slice none 0 0)) 70)) (.cells #[.pointer (some ⟨W.heap.size + 1, 0, none⟩)] 67)
  rw [World.size_alloc] at c2
  rw [World.size_alloc, World.size_alloc] at c3
  have hb3 := below3a W (.map #[] 0) (.cells (jV sa ca ss.length cs.length sc cc W.heap.size (.string ⟨#[]⟩) (.int .i64 0) (.slice none 0 0) (.bool false) (.string ⟨#[]⟩) (.int .i64 0) (.slice none 0 0) (.slice none 0 0)) 70) (.cells #[.pointer (some ⟨W.heap.size + 1, 0, none⟩)] 67)
  obtain ⟨es, clock, m1, m2⟩ := mX
  refine ⟨after hb hb3 hb.size, hl, lay hb3 h1, lay hb3 h2, ⟨_, _, _, _, _, _, _, _, c2⟩, c3, ⟨es, clock, ?_, m2⟩⟩
  rw [heap_alloc_new] at m1
  rw [c1]
  exact m1
theorem RG.judged {w : World} {ss : List StD} {cs : List CoD} {sa ca : Option Addr} {sc cc B k : Nat} {W W' : World} (h : RG w ss cs sa ca sc cc B k W) (hk : Kept8 (B + 1) W W') (hj : ∃ u3 u4 u5 u6 u7 u8 u9 u10, W'.heap[B + 1]? = some (.cells (jV sa ca ss.length cs.length sc cc B u3 u4 u5 u6 u7 u8 u9 u10) 70 (0, 0))) : RG w ss cs sa ca sc cc B k W' := by
  have hl := h.low
  have hs := h.size
  have e : ∀ i, i < B + 3 → i ≠ B + 1 → W'.heap[i]? = W.heap[i]? := fun i hi hne => hk.block i hne (by omega)
  exact ⟨h.below.trans (hk.below.mono (by omega)), hl, (e _ (by omega) (by omega)).trans h.t1, (e _ (by omega) (by omega)).trans h.t2, hj, (e _ (by omega) (by omega)).trans h.p, owns_keep h.m (e _ (by omega) (by omega))⟩
/-- The answer is stored, and the function is left. -/
theorem leave_r {w W : World} {D n : Nat} {v : Value} {tm : Array Value} {Q : Ending → World → Prop} (hD : w.heap.size + 1 < D) (hd : W.heap[D]? = some (.deferred (some []))) (h2 : W.heap[w.heap.size + 1]? = some (.cells #[.int .i64 0] 41 (0, 0))) (hb : Below w.heap.size w W) (ht : tm[2]?.getD undef = .pointer (some ⟨w.heap.size + 1, 0, none⟩))
    (hQ : ∀ W', Below w.heap.size w W' → Q (.returned v) W') :
    bodyPostM Fence.wide n Try.prog Try.f16 Q Exit.ret { tmps := tm, defers := [{ target := .collected D, args := #[] }] } (W.setCell ⟨w.heap.size + 1, 0, none⟩ v) := by
  have e := store_s v hD hd h2 hb
  exact leave_s (S := D) (b := w.heap.size + 1) (v := v) e.1 ht e.2.1 e.2.2.1 (hQ _ e.2.2.2)
theorem idx_nonneg {α : Type} {p : α → Bool} : ∀ {l : List α} {k : Int}, 0 ≤ k → (∃ x ∈ l, p x = true) → 0 ≤ idxL p l k
  | [], _, _, h => by obtain ⟨x, hx, -⟩ := h; cases hx
  | a :: l, k, hk, h => by
    rw [idxL]
    by_cases ha : p a = true
    · rw [if_pos ha]; exact hk
    · rw [if_neg ha]
      obtain ⟨x, hx, hp⟩ := h
      rcases List.mem_cons.1 hx with rfl | hx
      · exact absurd hp ha
      · exact idx_nonneg (by omega) ⟨x, hx, hp⟩
theorem key_has (ss : List StD) (nm : ByteArray) : Maps.has (mapN (namesL ss) ss.length) (.string nm.data.toList) = decide (0 ≤ idxL (stN nm) ss 0) := by
  rw [has_mapN _ _ _ (by simp), List.take_of_length_le (by simp)]
  by_cases h : ∃ s ∈ ss, stN nm s = true
  · rw [decide_eq_true (idx_nonneg (by omega) h)]
    obtain ⟨s, hs, h⟩ := h
    rw [List.contains_iff_mem]
    refine List.mem_map.2 ⟨s.nm, List.mem_map.2 ⟨s, hs, rfl⟩, ?_⟩
    simpa [stN, sEq, ByteArray.toList_eq] using h
  · have h0 : idxL (stN nm) ss 0 = -1 := idx_no 0 (fun j y hj hy => by
      cases hq : stN nm y
      · rfl
      · exact absurd ⟨y, List.mem_of_getElem? hy, hq⟩ h)
    rw [h0]
    refine (Bool.eq_false_iff.2 fun hc => h ?_).trans (by rfl)
    rw [List.contains_iff_mem] at hc
    obtain ⟨b, hb, he⟩ := List.mem_map.1 hc
    obtain ⟨s, hs, rfl⟩ := List.mem_map.1 hb
    exact ⟨s, hs, by simpa [stN, sEq, ByteArray.toList_eq] using he⟩
theorem cum_mem {α β : Type} {g : α → List β} {l : List α} {t : β} : ∀ {n : Nat}, t ∈ cum g l n → ∃ x ∈ l, t ∈ g x
  | 0, h => by simp [cum] at h
  | n + 1, h => by
    rw [cum] at h
    rcases List.mem_append.1 h with h | h
    · exact cum_mem h
    · cases hx : l[n]? with
      | none => simp [hx] at h
      | some x => simp [hx] at h; exact ⟨x, List.mem_of_getElem? hx, h⟩
theorem ty_size {ss : List StD} {cs : List CoD} {t : TyD} (hok : OkM ss cs) (h : t ∈ allT ss cs) : t.name.size ≤ maxLen := by
  rcases List.mem_append.1 h with h | h
  · obtain ⟨s, hs, ht⟩ := cum_mem h
    obtain ⟨f, hf, rfl⟩ := List.mem_map.1 ht
    exact ((hok.1 s hs).2 f hf).2
  · obtain ⟨c, hc, ht⟩ := cum_mem h
    rcases List.mem_cons.1 ht with rfl | ht
    · exact (hok.2 c hc).2.1
    · obtain ⟨v, hv, rfl⟩ := List.mem_map.1 ht
      exact (hok.2 c hc).2.2 v hv
theorem one_cell {W : World} {k t : Nat} {v u : Value} (h : W.heap[k]? = some (.cells #[v] t (0, 0))) : (W.setCell ⟨k, 0, none⟩ u).cell? ⟨k, 0, none⟩ = some u := by
  have := set_here h 0 u
  exact cells_at this 0
end Go.Proofs.Ytfhdiahjfnphkaa
