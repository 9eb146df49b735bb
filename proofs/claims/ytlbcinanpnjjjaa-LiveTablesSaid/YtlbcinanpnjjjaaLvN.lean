/- Who is asked, variable by variable: plain, and what waits in memory. No conditions. -/
import Derived.Test.YtlbcinanpnjjjaaLvL
import Derived.Test.YtlbcinanpnjjjaaLvM
namespace Go.Proofs.Ytlbcinanpnjjjaa
open Go.RowKit Go.Maps
set_option linter.unusedVariables false
set_option linter.unusedSimpArgs false
theorem nodup_le : ∀ (n : Nat) (l : List Nat), l.Nodup → (∀ y ∈ l, y < n) → l.length ≤ n
  | 0, l, _, h => by
    cases l with
    | nil => simp
    | cons a l => exact absurd (h a (by simp)) (by omega)
  | n + 1, l, hd, h => by
    have h1 := nodup_le n (l.erase n) (hd.erase n) (fun y hy => by
      have h2 := (hd.mem_erase_iff).1 hy
      have := h y h2.2
      have := h2.1
      omega)
    have h3 := @List.length_erase _ _ _ n l
    split at h3 <;> omega
abbrev natV (l : List Nat) : List Value := l.map (fun (k : Nat) => Value.int .i64 (k : Int))
theorem edsF_mem (x : CoD) (a b : Int) : ∀ i, (a, b) ∈ edsF x i ↔ ∃ z : Nat, z < i ∧ a = (z : Int) ∧ b ∈ edgesL x z
  | 0 => by simp [edsF]
  | i + 1 => by
    unfold edsF
    rw [List.mem_append, edsF_mem x a b i, List.mem_map]
    constructor
    · rintro (⟨z, h1, h2⟩ | ⟨y, h1, h2⟩)
      · exact ⟨z, by omega, h2⟩
      · injection h2 with h2 h3
        exact ⟨i, by omega, h2.symm, by rw [← h3]; exact h1⟩
    · rintro ⟨z, h1, h2, h3⟩
      by_cases e : z < i
      · exact .inl ⟨z, e, h2, h3⟩
      · obtain rfl : z = i := by omega
        exact .inr ⟨b, h3, by rw [h2]⟩
theorem nxE_mem {x : CoD} {z y : Nat} : y ∈ nxE x z ↔ (y : Int) ∈ edgesL x z := by
  unfold nxE
  rw [List.mem_map]
  constructor
  · rintro ⟨u, hu, rfl⟩
    obtain ⟨j, rfl, -⟩ := edges_in hu
    simpa using hu
  · intro h
    exact ⟨_, h, by simp⟩
/-- Those that lead to y. -/
abbrev behL (x : CoD) (y : Nat) : List Int := behE (eds x.ins x.ins.length) y
theorem beh_mem {x : CoD} {y : Nat} (hy : y < x.ins.length) (a : Int) : a ∈ behL x y ↔ ∃ z : Nat, z < x.ins.length ∧ a = (z : Int) ∧ y ∈ nxE x z := by
  unfold behL
  rw [← edsF_beh x hy]
  unfold behE
  rw [List.mem_map]
  constructor
  · rintro ⟨⟨p, q⟩, h1, h2⟩
    rw [List.mem_filter] at h1
    obtain ⟨h1, h3⟩ := h1
    simp only [decide_eq_true_eq] at h3
    simp only at h2
    subst h2 h3
    obtain ⟨z, h4, h5, h6⟩ := (edsF_mem x _ _ _).1 h1
    exact ⟨z, h4, h5, nxE_mem.2 h6⟩
  · rintro ⟨z, h1, rfl, h3⟩
    exact ⟨((z : Int), (y : Int)), List.mem_filter.2 ⟨(edsF_mem x _ _ _).2 ⟨z, h1, rfl, nxE_mem.1 h3⟩, by simp⟩, rfl⟩
/-- While the list that waits is gone through: what is marked is asked, what leads to what is done is marked. -/
structure Wt (x : CoD) (v : Nat) (i j : Nat) (todo : List Nat) (out : Met) : Prop where
  same : ∀ y, out y = true ↔ y ∈ todo
  nodup : todo.Nodup
  good : ∀ y ∈ todo, Ask x y v
  lt : ∀ y ∈ todo, y < x.ins.length
  first : ∀ y, y < x.ins.length → rdV x y v = true → y ∈ todo
  shut : ∀ a y, a < i → todo[a]? = some y → ∀ z, z < x.ins.length → y ∈ nxE x z → wrV x z v = false → z ∈ todo
  part : ∀ y, todo[i]? = some y → ∀ z : Nat, (z : Int) ∈ (behL x y).take j → wrV x z v = false → z ∈ todo
section
variable {x : CoD} {v i j : Nat} {todo : List Nat} {out : Met}
theorem Wt.end (h : Wt x v i 0 todo out) (hi : i = todo.length) {y : Nat} (hy : y < x.ins.length) : out y = true ↔ Ask x y v := by
  rw [h.same]
  refine ⟨h.good y, fun ha => ?_⟩
  have go : ∀ a b, Ask x a b → b = v → a < x.ins.length → a ∈ todo := by
    intro a b hab
    induction hab with
    | here hr => intro e hal; subst e; exact h.first _ hal hr
    | step hj _ hw ih =>
      intro e hal
      subst e
      have hm := ih rfl (nxE_lt hj)
      obtain ⟨q, hq, hqq⟩ := List.mem_iff_getElem.1 hm
      exact h.shut q _ (by omega) (by rw [← hqq]; exact List.getElem?_eq_getElem hq) _ hal hj hw
  exact go y v ha rfl hy
theorem Wt.skip {y z : Nat} (h : Wt x v i j todo out) (hy : todo[i]? = some y) (hz : (behL x y)[j]? = some (z : Int)) (hs : out z = true ∨ wrV x z v = true) : Wt x v i (j + 1) todo out := by
  refine ⟨h.same, h.nodup, h.good, h.lt, h.first, h.shut, fun y' hy' u hu hw => ?_⟩
  rw [hy] at hy'
  cases hy'
  rw [List.take_add_one, hz, List.mem_append] at hu
  rcases hu with hu | hu
  · exact h.part y hy u hu hw
  · simp at hu
    obtain rfl : u = z := by omega
    rcases hs with hs | hs
    · exact (h.same u).1 hs
    · rw [hs] at hw; cases hw
theorem Wt.push {y z : Nat} (h : Wt x v i j todo out) (hy : todo[i]? = some y) (hz : (behL x y)[j]? = some (z : Int)) (ho : out z = false) (hw : wrV x z v = false) : Wt x v i (j + 1) (todo ++ [z]) (mark out z) := by
  have hyl := h.lt y (List.mem_of_getElem? hy)
  obtain ⟨z', h1, h2, h3⟩ := (beh_mem hyl (z : Int)).1 (List.mem_of_getElem? hz)
  obtain rfl : z = z' := by omega
  have hil := (List.getElem?_eq_some_iff.1 hy).1
  have hno : z ∉ todo := fun hm => by rw [(h.same z).2 hm] at ho; cases ho
  refine ⟨fun u => ?_, ?_, fun u hu => ?_, fun u hu => ?_, fun u hu hr => List.mem_append_left _ (h.first u hu hr), fun a u ha hu q hq hn hwq => ?_, fun u hu q hq hwq => ?_⟩
  · rw [List.mem_append, List.mem_singleton, ← h.same u]
    simp only [mark, Bool.or_eq_true, beq_iff_eq]
    exact Or.comm
  · rw [List.nodup_append]
    exact ⟨h.nodup, by simp, fun a ha b hb e => by rw [List.mem_singleton] at hb; subst hb; subst e; exact hno ha⟩
  · rcases List.mem_append.1 hu with hu | hu
    · exact h.good u hu
    · rw [List.mem_singleton] at hu
      subst hu
      exact .step h3 (h.good y (List.mem_of_getElem? hy)) hw
  · rcases List.mem_append.1 hu with hu | hu
    · exact h.lt u hu
    · rw [List.mem_singleton] at hu
      omega
  · rw [List.getElem?_append_left (by omega)] at hu
    exact List.mem_append_left _ (h.shut a u ha hu q hq hn hwq)
  · rw [List.getElem?_append_left hil, hy] at hu
    cases hu
    rw [List.take_add_one, hz, List.mem_append] at hq
    rcases hq with hq | hq
    · exact List.mem_append_left _ (h.part y hy q hq hwq)
    · simp at hq
      obtain rfl : q = z := by omega
      simp
theorem Wt.next {y : Nat} (h : Wt x v i j todo out) (hy : todo[i]? = some y) (hj : (behL x y).length ≤ j) : Wt x v (i + 1) 0 todo out := by
  have hyl := h.lt y (List.mem_of_getElem? hy)
  refine ⟨h.same, h.nodup, h.good, h.lt, h.first, fun a u ha hu z hz hn hw => ?_, fun u hu z hz => by simp at hz⟩
  by_cases e : a < i
  · exact h.shut a u e hu z hz hn hw
  · obtain rfl : a = i := by omega
    rw [hy] at hu
    cases hu
    refine h.part y hy z ?_ hw
    rw [List.take_of_length_le hj]
    exact (beh_mem hyl _).2 ⟨z, hz, rfl, hn⟩
end
/-- Those of the first i that read v. -/
def rdT (x : CoD) (v i : Nat) : List Nat := (List.range i).filter (fun y => rdV x y v)
theorem rdT_next (x : CoD) (v i : Nat) : rdT x v (i + 1) = if rdV x i v then rdT x v i ++ [i] else rdT x v i := by
  unfold rdT
  rw [List.range_succ, List.filter_append]
  by_cases h : rdV x i v = true
  · simp [h]
  · simp [h]
theorem rdT_len (x : CoD) (v i : Nat) : (rdT x v i).length ≤ i := by
  have := List.length_filter_le (fun y => rdV x y v) (List.range i)
  simpa [rdT] using this
theorem wt_start {x : CoD} {v : Nat} {out : Met} (h : ∀ y, out y = (decide (y < x.ins.length) && rdV x y v)) : Wt x v 0 0 (rdT x v x.ins.length) out := by
  have hm : ∀ y, y ∈ rdT x v x.ins.length ↔ (y < x.ins.length ∧ rdV x y v = true) := fun y => by
    unfold rdT
    rw [List.mem_filter, List.mem_range]
  refine ⟨fun y => ?_, List.nodup_range.filter _, fun y hy => .here ((hm y).1 hy).2, fun y hy => ((hm y).1 hy).1, fun y h1 h2 => (hm y).2 ⟨h1, h2⟩, fun a y ha => absurd ha (by omega), fun y hy z hz => by simp at hz⟩
  rw [h y, hm y]
  simp
/-- The list that waits, and what is marked, in memory. -/
structure A1 (w0 W : World) (G n : Nat) (v : Value) (todo : List Nat) (out : Met) : Prop where
  bel : Below w0.heap.size w0 W
  bl : BlM W G n out
  row : W.ownsRow w0.heap.size 3 1 v todo.length (natV todo)
  lo : w0.heap.size ≤ G
section
variable {w0 W W' : World} {G n : Nat} {v : Value} {todo : List Nat} {out : Met}
theorem A1.later (h : A1 w0 W G n v todo out) (hb : Below W.heap.size W W') : A1 w0 W' G n v todo out :=
  ⟨after h.bel hb h.bel.size, h.bl.later hb, row_at h.row (fun g q => hb.block g (row_lt h.row q).2), h.lo⟩
theorem A1.push {k : Nat} {W1 W2 W3 : World} {v' : Value} (h : A1 w0 W G n v todo out)
    (h1 : W1 = W.setCell ⟨G, k, none⟩ (.bool true)) (h2 : Below W1.heap.size W1 W2) (h3 : W3.ownsRow w0.heap.size 3 1 v' (todo.length + 1) (natV todo ++ [.int .i64 k])) (hg : W2.grownBy W3 v.ownBlock) : A1 w0 W3 G n v' (todo ++ [k]) (mark out k) := by
  subst h1
  have hne := h.bl.not h.row (by decide)
  have hbl := (h.bl.set k).later h2
  have hb1 : Below w0.heap.size w0 (W.setCell ⟨G, k, none⟩ (.bool true)) := h.bel.setCell h.lo _
  have hb2 := after hb1 h2 hb1.size
  exact ⟨hb2.grown hg hb2.size (fun g q => (row_lt h.row q).1), hbl.grown hg hne, by simpa [natV] using h3, h.lo⟩
theorem A1.row2 {k : Nat} {W1 W2 : World} (h : A1 w0 W G n v todo out) (h1 : W1 = W.setCell ⟨G, k, none⟩ (.bool true)) (h2 : Below W1.heap.size W1 W2) : W2.ownsRow w0.heap.size 3 1 v todo.length (natV todo) := by
  subst h1
  have hne := h.bl.not h.row (by decide)
  refine row_at h.row (fun g q => ?_)
  have hl := (row_lt h.row q).2
  rw [h2.block g (by simp [World.setCell]; exact hl)]
  exact Below.heap_setCell _ _ _ _ (fun e => hne (by rw [q]; simp at e; rw [e]))
theorem A1.form (h : A1 w0 W G n v todo out) (hn : todo.length < 1000000) : ∃ A c, v = .slice A todo.length c ∧ IntsM W A (todo.map (fun (k : Nat) => (k : Int))) := by
  have h1 := h.row
  rw [show natV todo = (todo.map (fun (k : Nat) => (k : Int))).map (Value.int .i64) from by simp [natV]] at h1
  obtain ⟨A, c, e, hA⟩ := ints_owns h1 (by simp; omega)
  exact ⟨A, c, by simpa using e, hA⟩
end
/-- The lists behind, apart from the list that waits. -/
structure TX (W : World) (T bT n c : Nat) (vs : Nat → Value) (F : Nat → List Int) (v : Value) : Prop where
  tab : Tab W T bT n vs F c
  ap : ∀ a g, a < n → (vs a).ownBlock = some g → v.ownBlock ≠ some g
section
variable {w0 W W' : World} {G T bT n c : Nat} {vs : Nat → Value} {F : Nat → List Int} {v v' : Value} {todo : List Nat} {out : Met}
theorem TX.later (h : TX W T bT n c vs F v) (hb : Below W.heap.size W W') : TX W' T bT n c vs F v := ⟨h.tab.later hb, h.ap⟩
theorem TX.push {k m : Nat} {W1 W2 W3 : World} (h : TX W T bT n c vs F v) (ha : A1 w0 W G m v todo out)
    (h1 : W1 = W.setCell ⟨G, k, none⟩ (.bool true)) (h2 : Below W1.heap.size W1 W2) (hg : W2.grownBy W3 v.ownBlock) (hv : v'.ownBlock = v.ownBlock ∨ v'.ownBlock = some W2.heap.size) : TX W3 T bT n c vs F v' := by
  subst h1
  obtain ⟨cs, q1, q2⟩ := h.tab.blk
  have hs : (W.setCell ⟨G, k, none⟩ (.bool true)).heap.size = W.heap.size := by simp [World.setCell]
  have hT : T ≠ G := by
    rintro rfl
    obtain ⟨cs', p1, -⟩ := ha.bl
    rw [q1] at p1
    injection p1 with p1
    injection p1 with _ p1
    exact absurd p1 (by decide)
  have hv1 : v.ownBlock ≠ some T := row_not79 ha.row q1 (by decide)
  have hrow : ∀ a g, a < n → (vs a).ownBlock = some g → g ≠ G := fun a g hn q e => by
    subst e
    exact ha.bl.not (h.tab.row a hn) (by decide) q
  refine ⟨h.tab.at ?_ (fun a g hn q => ?_), fun a g hn q e => ?_⟩
  · rw [hg.block T (by have := h.tab.lt; have := h2.size; omega) (fun e => hv1 e.symm), h2.block T (by rw [hs]; exact h.tab.lt)]
    exact Below.heap_setCell _ _ _ _ hT
  · have hl := (row_lt (h.tab.row a hn) q).2
    rw [hg.block g (by have := h2.size; omega) (fun e => h.ap a g hn q e.symm), h2.block g (by rw [hs]; exact hl)]
    exact Below.heap_setCell _ _ _ _ (hrow a g hn q)
  · have hl := (row_lt (h.tab.row a hn) q).2
    rcases hv with hv | hv
    · exact h.ap a g hn q (hv ▸ e)
    · rw [hv] at e
      injection e with e
      have := h2.size
      omega
end
end Go.Proofs.Ytlbcinanpnjjjaa
