/- A row of lists of numbers in memory, and who stands behind whom. No conditions. -/
import Derived.Test.YtbmjhkimeeahhaaFlX
import Derived.Test.YtbmjhkimeeahhaaFlG
namespace Go.Proofs.Ytbmjhkimeeahhaa
open Go.RowKit Go.Maps
set_option linter.unusedVariables false
set_option linter.unusedSimpArgs false
theorem info27 : (Try.prog.info? 27).map (fun i => (i.zero, i.size, i.bytes)) = some (some (.slice none 0 0), 1, 24) := by kernel_rfl
/-- n lists in block T, each with a row of its own. -/
structure Tab (W : World) (T base n : Nat) (vs : Nat → Value) (F : Nat → List Int) (c : Nat) : Prop where
  blk : ∃ cs : Array Value, W.heap[T]? = some (.cells cs 27 (0, 0)) ∧ cs.size = n ∧ ∀ i, i < n → cs[i]? = some (vs i)
  row : ∀ i, i < n → W.ownsRow base 3 1 (vs i) (F i).length ((F i).map (.int .i64))
  apart : ∀ i j g, i < n → j < n → (vs i).ownBlock = some g → (vs j).ownBlock = some g → i = j
  lo : T < base
  few : ∀ i, i < n → (F i).length ≤ c
section
variable {W W' : World} {T base n c c' : Nat} {vs vs' : Nat → Value} {F F' : Nat → List Int}
theorem Tab.lt (h : Tab W T base n vs F c) : T < W.heap.size := by
  obtain ⟨cs, h1, -⟩ := h.blk
  exact (Array.getElem?_eq_some_iff.1 h1).1
theorem Tab.cell (h : Tab W T base n vs F c) {i : Nat} (hi : i < n) : W.cell? ⟨T, i, none⟩ = some (vs i) := by
  obtain ⟨cs, h1, h2, h3⟩ := h.blk
  rw [cells_at h1 i]
  exact h3 i hi
theorem Tab.soft (h : Tab W T base n vs F c) (i : Nat) : W.frozen? ⟨T, i, none⟩ = false := by
  obtain ⟨cs, h1, -⟩ := h.blk
  exact frozen_no h1 i
theorem Tab.at (h : Tab W T base n vs F c) (hT : W'.heap[T]? = W.heap[T]?) (hv : ∀ i g, i < n → (vs i).ownBlock = some g → W'.heap[g]? = W.heap[g]?) : Tab W' T base n vs F c := by
  obtain ⟨cs, h1, h2⟩ := h.blk
  exact ⟨⟨cs, hT.trans h1, h2⟩, fun i hi => row_at (h.row i hi) (fun g q => hv i g hi q), h.apart, h.lo, h.few⟩
theorem Tab.later (h : Tab W T base n vs F c) (hb : Below W.heap.size W W') : Tab W' T base n vs F c :=
  h.at (hb.block _ h.lt) (fun i g hi q => hb.block g (row_lt (h.row i hi) q).2)
theorem Tab.made {b0 g : Nat} (h : W.ownsRow b0 27 1 (.slice (some ⟨g, 0, none⟩) n n) n (madeCells (Value.cells (.slice none 0 0)) (n * 1)).toList) : Tab W g (g + 1) n (fun _ => .slice none 0 0) (fun _ => []) 0 := by
  refine ⟨?_, fun i hi => World.ownsRow_nil _ _ _ _, fun i j k hi hj q => (by cases q), by omega, fun i hi => by simp⟩
  rcases h.2 with ⟨e0, -⟩ | ⟨g', cap, cur, e0, -, h2, hn, hc, hs, ht⟩
  · simp at e0
  · injection e0 with e1 e2 e3
    injection e1 with e1
    injection e1 with e1
    subst e1 e3
    refine ⟨cur, h2, by omega, fun i hi => ?_⟩
    have hl : cur.toList.take (n * 1) = cur.toList := List.take_of_length_le (by simp; omega)
    rw [hl] at ht
    rw [← Array.getElem?_toList, ht]
    simp [madeCells, Value.cells, hi, Nat.mod_one]
/-- One more number in one of the lists. -/
theorem Tab.push {i : Nat} {y : Int} {v : Value} (h : Tab W T base n vs F c) (hi : i < n) (hbase : base ≤ W.heap.size)
    (hown : W'.ownsRow base 3 1 v ((F i).length + 1) ((F i).map (.int .i64) ++ [.int .i64 y])) (hg : W.grownBy W' (vs i).ownBlock) (hv : v.ownBlock = (vs i).ownBlock ∨ v.ownBlock = some W.heap.size)
    (he : ∀ k, k < n → F' k = if k = i then F i ++ [y] else F k) :
    Tab (W'.setCell ⟨T, i, none⟩ v) T base n (fun k => if k = i then v else vs k) F' (c + 1) := by
  have hlo := h.lo
  have hT : W'.heap[T]? = W.heap[T]? := hg.block T h.lt (fun e => by have := (row_lt (h.row i hi) e.symm).1; omega)
  have hne : ∀ k, k ≠ T → (W'.setCell ⟨T, i, none⟩ v).heap[k]? = W'.heap[k]? := fun k hk => Below.heap_setCell _ _ _ _ hk
  obtain ⟨cs, h1, h2, h3⟩ := h.blk
  refine ⟨⟨cs.setIfInBounds i v, set_here (hT.trans h1) i v, by simp [h2], fun k hk => ?_⟩, fun k hk => ?_, fun a b g ha hb qa qb => ?_, hlo, fun k hk => ?_⟩
  · rw [Array.getElem?_setIfInBounds]
    by_cases hik : i = k
    · subst hik
      simp [h2, hk]
    · rw [if_neg hik, h3 k hk, if_neg (fun e => hik e.symm)]
  · rw [he k hk]
    by_cases hik : k = i
    · subst hik
      simp only [if_true, List.length_append, List.length_cons, List.length_nil, List.map_append, List.map_cons, List.map_nil]
      exact row_at hown (fun g q => hne g (by have := (row_lt hown q).1; omega))
    · rw [if_neg hik]
      simp only [if_neg hik]
      refine row_at (h.row k hk) (fun g q => ?_)
      have hl := row_lt (h.row k hk) q
      rw [hne g (by omega)]
      exact hg.block g hl.2 (fun e => hik (h.apart k i g hk hi q e.symm))
  · by_cases hai : a = i <;> by_cases hbi : b = i
    · omega
    · simp only [hai, if_true] at qa
      simp only [if_neg hbi] at qb
      rcases hv with e | e
      · rw [hai]
        exact h.apart i b g hi hb (e ▸ qa) qb
      · have := (row_lt (h.row b hb) qb).2
        rw [e] at qa
        injection qa with qa
        omega
    · simp only [hbi, if_true] at qb
      simp only [if_neg hai] at qa
      rcases hv with e | e
      · rw [hbi]
        exact h.apart a i g ha hi qa (e ▸ qb)
      · have := (row_lt (h.row a ha) qa).2
        rw [e] at qb
        injection qb with qb
        omega
    · simp only [if_neg hai] at qa
      simp only [if_neg hbi] at qb
      exact h.apart a b g ha hb qa qb
  · rw [he k hk]
    have := h.few k hk
    have := h.few i hi
    split
    · simp; omega
    · omega
end
/-- Behind k: those whose edge leads to k, in order. -/
def behE (l : List (Int × Int)) (k : Nat) : List Int := (l.filter (fun p => decide (p.2 = (k : Int)))).map Prod.fst
theorem behE_nil (k : Nat) : behE [] k = [] := rfl
theorem behE_snoc (l : List (Int × Int)) (a b : Int) (k : Nat) : behE (l ++ [(a, b)]) k = if b = (k : Int) then behE l k ++ [a] else behE l k := by
  unfold behE
  rw [List.filter_append]
  by_cases h : b = (k : Int)
  · simp [h]
  · simp [h]
theorem behE_at {l : List (Int × Int)} {a : Int} {i n : Nat} : ∀ k, k < n → behE (l ++ [(a, (i : Int))]) k = if k = i then behE l i ++ [a] else behE l k := fun k _ => by
  rw [behE_snoc]
  by_cases h : k = i
  · subst h; simp
  · rw [if_neg (by omega), if_neg h]
theorem behE_out {l : List (Int × Int)} {a b : Int} {n : Nat} (h : inN n b = false) : ∀ k, k < n → behE (l ++ [(a, b)]) k = behE l k := fun k hk => by
  rw [behE_snoc, if_neg]
  intro e
  subst e
  rw [inN_t (by omega) (by omega)] at h
  cases h
/-- The same, from the edges that stay inside. -/
theorem behE_in (n : Nat) (l : List (Int × Int)) {k : Nat} (hk : k < n) : behE (l.filter (fun p => inN n p.2)) k = behE l k := by
  unfold behE
  rw [List.filter_filter]
  congr 1
  refine List.filter_congr fun p _ => ?_
  by_cases h : p.2 = (k : Int)
  · rw [h, inN_t (by omega) (by omega)]; simp
  · simp [h]
theorem eds_len (rs : List InD) : ∀ i, (eds rs i).length ≤ 2 * i
  | 0 => by simp [eds]
  | i + 1 => by
    have ih := eds_len rs i
    unfold eds
    cases h : rs[i]? with
    | none => simp; omega
    | some r =>
      have := next_few r i
      simp [rowE]
      omega
end Go.Proofs.Ytbmjhkimeeahhaa
