/- Who leads to each instruction, by the reference. Condition: fewer than a million instructions. -/
import Derived.Test.YtlbcinanpnjjjaaLvI
import Derived.StillTailTactics
import Derived.Deep.RegionLaw
import Derived.OwnWalk
namespace Go.Proofs.Ytlbcinanpnjjjaa
open Go.RowKit Go.Maps
set_option linter.unusedVariables false
set_option linter.unusedSimpArgs false
/-- The edges of one instruction, of the first ones. -/
def rowE (i : Nat) (r : InD) : List (Int × Int) := (nextL r i).map fun y => ((i : Int), y)
def eds (rs : List InD) : Nat → List (Int × Int)
  | 0 => []
  | i + 1 => eds rs i ++ (match rs[i]? with | some r => rowE i r | none => [])
theorem eds_succ {rs : List InD} {i : Nat} {r : InD} (h : rs[i]? = some r) : eds rs (i + 1) = eds rs i ++ rowE i r := by simp [eds, h]
theorem info27 : (Try.prog.info? 27).map (fun i => (i.zero, i.size, i.bytes)) = some (some (.slice none 0 0), 1, 24) := by kernel_rfl
/-- n lists in block T, each with a row of its own. -/
structure Tab (W : World) (T base n : Nat) (vs : Nat → Value) (F : Nat → List Int) (c : Nat) : Prop where
  blk : ∃ cs : Array Value, W.heap[T]? = some (.cells cs 27 (0, 0)) ∧ cs.size = n ∧ ∀ i, i < n → cs[i]? = some (vs i)
  row : ∀ i, i < n → W.ownsRow base 3 1 (vs i) (F i).length ((F i).map (.int .i64))
  apart : ∀ i j g, i < n → j < n → (vs i).ownBlock = some g → (vs j).ownBlock = some g → i = j
  lo : T < base
  few : ∀ i, i < n → (F i).length ≤ c
section
variable {W W' : World} {T base n c c' : Nat} {vs vs' : Nat → Value} {F F' : Nat → List Int}
theorem Tab.lt (h : Tab W T base n vs F c) : T < W.heap.size := by
  obtain ⟨cs, h1, -⟩ := h.blk
  exact (Array.getElem?_eq_some_iff.1 h1).1
theorem Tab.cell (h : Tab W T base n vs F c) {i : Nat} (hi : i < n) : W.cell? ⟨T, i, none⟩ = some (vs i) := by
  obtain ⟨cs, h1, h2, h3⟩ := h.blk
  rw [cells_at h1 i]
  exact h3 i hi
theorem Tab.soft (h : Tab W T base n vs F c) (i : Nat) : W.frozen? ⟨T, i, none⟩ = false := by
  obtain ⟨cs, h1, -⟩ := h.blk
  exact frozen_no h1 i
theorem Tab.at (h : Tab W T base n vs F c) (hT : W'.heap[T]? = W.heap[T]?) (hv : ∀ i g, i < n → (vs i).ownBlock = some g → W'.heap[g]? = W.heap[g]?) : Tab W' T base n vs F c := by
  obtain ⟨cs, h1, h2⟩ := h.blk
  exact ⟨⟨cs, hT.trans h1, h2⟩, fun i hi => row_at (h.row i hi) (fun g q => hv i g hi q), h.apart, h.lo, h.few⟩
theorem Tab.later (h : Tab W T base n vs F c) (hb : Below W.heap.size W W') : Tab W' T base n vs F c :=
  h.at (hb.block _ h.lt) (fun i g hi q => hb.block g (row_lt (h.row i hi) q).2)
theorem Tab.made {b0 g : Nat} (h : W.ownsRow b0 27 1 (.slice (some ⟨g, 0, none⟩) n n) n (madeCells (Value.cells (.slice none 0 0)) (n * 1)).toList) : Tab W g (g + 1) n (fun _ => .slice none 0 0) (fun _ => []) 0 := by
  refine ⟨?_, fun i hi => World.ownsRow_nil _ _ _ _, fun i j k hi hj q => (by cases q), by omega, fun i hi => by simp⟩
  rcases h.2 with ⟨e0, -⟩ | ⟨g', cap, cur, e0, -, h2, hn, hc, hs, ht⟩
  · simp at e0
  · injection e0 with e1 e2 e3
    injection e1 with e1
    injection e1 with e1
    subst e1 e3
    refine ⟨cur, h2, by omega, fun i hi => ?_⟩
    have hl : cur.toList.take (n * 1) = cur.toList := List.take_of_length_le (by simp; omega)
    rw [hl] at ht
    rw [← Array.getElem?_toList, ht]
    simp [madeCells, Value.cells, hi, Nat.mod_one]
/-- One more number in one of the lists. -/
theorem Tab.push {i : Nat} {y : Int} {v : Value} (h : Tab W T base n vs F c) (hi : i < n) (hbase : base ≤ W.heap.size)
    (hown : W'.ownsRow base 3 1 v ((F i).length + 1) ((F i).map (.int .i64) ++ [.int .i64 y])) (hg : W.grownBy W' (vs i).ownBlock) (hv : v.ownBlock = (vs i).ownBlock ∨ v.ownBlock = some W.heap.size)
    (he : ∀ k, k < n → F' k = if k = i then F i ++ [y] else F k) :
    Tab (W'.setCell ⟨T, i, none⟩ v) T base n (fun k => if k = i then v else vs k) F' (c + 1) := by
  have hlo := h.lo
  have hT : W'.heap[T]? = W.heap[T]? := hg.block T h.lt (fun e => by have := (row_lt (h.row i hi) e.symm).1; omega)
  have hne : ∀ k, k ≠ T → (W'.setCell ⟨T, i, none⟩ v).heap[k]? = W'.heap[k]? := fun k hk => Below.heap_setCell _ _ _ _ hk
  obtain ⟨cs, h1, h2, h3⟩ := h.blk
  refine ⟨⟨cs.setIfInBounds i v, set_here (hT.trans h1) i v, by simp [h2], fun k hk => ?_⟩, fun k hk => ?_, fun a b g ha hb qa qb => ?_, hlo, fun k hk => ?_⟩
  · rw [Array.getElem?_setIfInBounds]
    by_cases hik : i = k
    · subst hik
      simp [h2, hk]
    · rw [if_neg hik, h3 k hk, if_neg (fun e => hik e.symm)]
  · rw [he k hk]
    by_cases hik : k = i
    · subst hik
      simp only [if_true, List.length_append, List.length_cons, List.length_nil, List.map_append, List.map_cons, List.map_nil]
      exact row_at hown (fun g q => hne g (by have := (row_lt hown q).1; omega))
    · rw [if_neg hik]
      simp only [if_neg hik]
      refine row_at (h.row k hk) (fun g q => ?_)
      have hl := row_lt (h.row k hk) q
      rw [hne g (by omega)]
      exact hg.block g hl.2 (fun e => hik (h.apart k i g hk hi q e.symm))
  · by_cases hai : a = i <;> by_cases hbi : b = i
    · omega
    · simp only [hai, if_true] at qa
      simp only [if_neg hbi] at qb
      rcases hv with e | e
      · rw [hai]
        exact h.apart i b g hi hb (e ▸ qa) qb
      · have := (row_lt (h.row b hb) qb).2
        rw [e] at qa
        injection qa with qa
        omega
    · simp only [hbi, if_true] at qb
      simp only [if_neg hai] at qa
      rcases hv with e | e
      · rw [hbi]
        exact h.apart a i g ha hi qa (e ▸ qb)
      · have := (row_lt (h.row a ha) qa).2
        rw [e] at qb
        injection qb with qb
        omega
    · simp only [if_neg hai] at qa
      simp only [if_neg hbi] at qb
      exact h.apart a b g ha hb qa qb
  · rw [he k hk]
    have := h.few k hk
    have := h.few i hi
    split
    · simp; omega
    · omega
end
/-- Behind k: those whose edge leads to k, in order. -/
def behE (l : List (Int × Int)) (k : Nat) : List Int := (l.filter (fun p => decide (p.2 = (k : Int)))).map Prod.fst
theorem behE_nil (k : Nat) : behE [] k = [] := rfl
theorem behE_snoc (l : List (Int × Int)) (a b : Int) (k : Nat) : behE (l ++ [(a, b)]) k = if b = (k : Int) then behE l k ++ [a] else behE l k := by
  unfold behE
  rw [List.filter_append]
  by_cases h : b = (k : Int)
  · simp [h]
  · simp [h]
theorem behE_at {l : List (Int × Int)} {a : Int} {i n : Nat} : ∀ k, k < n → behE (l ++ [(a, (i : Int))]) k = if k = i then behE l i ++ [a] else behE l k := fun k _ => by
  rw [behE_snoc]
  by_cases h : k = i
  · subst h; simp
  · rw [if_neg (by omega), if_neg h]
theorem behE_out {l : List (Int × Int)} {a b : Int} {n : Nat} (h : inN n b = false) : ∀ k, k < n → behE (l ++ [(a, b)]) k = behE l k := fun k hk => by
  rw [behE_snoc, if_neg]
  intro e
  subst e
  rw [inN_t (by omega) (by omega)] at h
  cases h
/-- The same, from the edges that stay inside. -/
theorem behE_in (n : Nat) (l : List (Int × Int)) {k : Nat} (hk : k < n) : behE (l.filter (fun p => inN n p.2)) k = behE l k := by
  unfold behE
  rw [List.filter_filter]
  congr 1
  refine List.filter_congr fun p _ => ?_
  by_cases h : p.2 = (k : Int)
  · rw [h, inN_t (by omega) (by omega)]; simp
  · simp [h]
theorem eds_len (rs : List InD) : ∀ i, (eds rs i).length ≤ 2 * i
  | 0 => by simp [eds]
  | i + 1 => by
    have ih := eds_len rs i
    unfold eds
    cases h : rs[i]? with
    | none => simp; omega
    | some r =>
      have := next_few r i
      simp [rowE]
      omega
theorem own_cell {W : World} {base : Nat} {A : Option Addr} {c j m : Nat} {E : List Int} {u : Int} (h : OwnInts W base (.slice A m c) E) (hu : E[j]? = some u) :
    ∃ b, A = some ⟨b, 0, none⟩ ∧ b < W.heap.size ∧ W.cell? ⟨b, j, none⟩ = some (.int .i64 u) := by
  have hn : E.length ≠ 0 := by have := (List.getElem?_eq_some_iff.1 hu).1; omega
  rcases h.2 with ⟨-, h0⟩ | ⟨g, cap, cur, e, hb, hg, hnc, hcm, hs, ht⟩
  · exact absurd h0 hn
  · injection e with e1 e2 e3
    refine ⟨g, e1, (Array.getElem?_eq_some_iff.1 hg).1, ?_⟩
    rw [cells_at hg j, ← Array.getElem?_toList]
    have hj := (List.getElem?_eq_some_iff.1 hu).1
    have := congrArg (fun l => l[j]?) ht
    simp only [List.getElem?_take, List.getElem?_map, hu] at this
    rw [if_pos (by omega)] at this
    exact this
theorem row_not79 {W : World} {base e size l : Nat} {v : Value} {xs : List Value} {b t : Nat} {cs : Array Value} (hr : W.ownsRow base e size v l xs) (hb : W.heap[b]? = some (.cells cs t (0, 0))) (ht : t ≠ e) : v.ownBlock ≠ some b := by
  intro q
  rcases hr.2 with ⟨e0, -⟩ | ⟨g', cap, cur, e0, -, h2, -⟩
  · rw [e0] at q; simp [Value.ownBlock] at q
  · rw [e0] at q
    simp [Value.ownBlock] at q
    subst q
    rw [hb] at h2
    injection h2 with h2
    injection h2 with _ h2
    exact ht h2
/-- What holds while the lists grow. -/
structure BhS (w : World) (cv : Array Value) (Cb T base n : Nat) (vs : Nat → Value) (l : List (Int × Int)) (W : World) : Prop where
  bel : Below w.heap.size w W
  box : W.heap[Cb]? = some (.cells cv 30 (0, 0))
  tab : Tab W T base n vs (behE l) l.length
  hi : base ≤ W.heap.size
  lo : w.heap.size ≤ Cb
  lo2 : Cb < T
section
variable {w W W' : World} {cv : Array Value} {Cb T base n lo5 : Nat} {vs : Nat → Value} {l : List (Int × Int)} {E : List Int} {v5 : Value}
theorem BhS.later (h : BhS w cv Cb T base n vs l W) (hb : Below W.heap.size W W') : BhS w cv Cb T base n vs l W' :=
  ⟨after h.bel hb h.bel.size, lay hb h.box, h.tab.later hb, Nat.le_trans h.hi hb.size, h.lo, h.lo2⟩
theorem BhS.push {k : Nat} {a : Int} {v : Value} (h : BhS w cv Cb T base n vs l W) (hk : k < n)
    (hown : W'.ownsRow base 3 1 v ((behE l k).length + 1) ((behE l k).map (.int .i64) ++ [.int .i64 a])) (hg : W.grownBy W' (vs k).ownBlock) (hv : v.ownBlock = (vs k).ownBlock ∨ v.ownBlock = some W.heap.size) :
    W'.cell? ⟨T, k, none⟩ = some (vs k) ∧ W'.frozen? ⟨T, k, none⟩ = false ∧ BhS w cv Cb T base n (fun j => if j = k then v else vs j) (l ++ [(a, (k : Int))]) (W'.setCell ⟨T, k, none⟩ v) := by
  have h1 := h.lo
  have h2 := h.lo2
  have h3 := h.tab.lo
  have hbl : ∀ g, (vs k).ownBlock = some g → base ≤ g := fun g q => (row_lt (h.tab.row k hk) q).1
  have hT : W'.heap[T]? = W.heap[T]? := hg.block T h.tab.lt (fun e => by have := hbl T e.symm; omega)
  have hC : W'.heap[Cb]? = W.heap[Cb]? := hg.block Cb (Array.getElem?_eq_some_iff.1 h.box).1 (fun e => by have := hbl Cb e.symm; omega)
  obtain ⟨cs, q1, q2, q3⟩ := h.tab.blk
  refine ⟨?_, frozen_no (hT.trans q1) k, ⟨?_, (Below.heap_setCell _ _ _ _ (by show Cb ≠ T; omega)).trans (hC.trans h.box), ?_, ?_, h1, h2⟩⟩
  · rw [cells_at (hT.trans q1) k]; exact q3 k hk
  · exact (h.bel.grown hg h.bel.size (fun g q => by have := hbl g q; omega)).setCell (p := ⟨T, k, none⟩) (by show w.heap.size ≤ T; omega) _
  · rw [List.length_append]
    exact h.tab.push hk h.hi hown hg hv (behE_at (n := n))
  · have := hg.size
    have := h.hi
    simp
    omega
/-- The edges of the moment stand apart from the lists. -/
theorem apart_push {k : Nat} {v u : Value} (h : BhS w cv Cb T base n vs l W) (hk : k < n) (h5 : OwnInts W lo5 v5 E) (hs : ∀ j g, j < n → (vs j).ownBlock = some g → v5.ownBlock ≠ some g)
    (hg : W.grownBy W' (vs k).ownBlock) (hv : v.ownBlock = (vs k).ownBlock ∨ v.ownBlock = some W.heap.size) :
    OwnInts (W'.setCell ⟨T, k, none⟩ u) lo5 v5 E ∧ ∀ j g, j < n → ((fun j => if j = k then v else vs j) j).ownBlock = some g → v5.ownBlock ≠ some g := by
  obtain ⟨cs, q1, -⟩ := h.tab.blk
  refine ⟨row_at h5 (fun g q => ?_), fun j g hj q e => ?_⟩
  · have hne : g ≠ T := fun e => row_not79 h5 q1 (by decide) (e ▸ q)
    rw [Below.heap_setCell _ _ _ _ hne]
    exact hg.block g (row_lt h5 q).2 (fun e => hs k g hk e.symm q)
  · by_cases hjk : j = k
    · simp only [hjk, if_true] at q
      rcases hv with e' | e'
      · exact hs k g hk (e' ▸ q) e
      · rw [e'] at q
        injection q with q
        have := (row_lt h5 e).2
        omega
    · simp only [if_neg hjk] at q
      exact hs j g hj q e
end
theorem grown_cell {W W' : World} {row : Option Nat} {b j : Nat} {v : Value} (hg : W.grownBy W' row) (h : W.cell? ⟨b, j, none⟩ = some v) (hne : row ≠ some b) : W'.cell? ⟨b, j, none⟩ = some v := by
  have e := hg.block b (cell_lt h) (fun q => hne q.symm)
  unfold World.cell? at h ⊢
  rw [e]
  exact h
theorem cells_al (W : World) (o : Obj) {b j : Nat} {v : Value} (h : W.cell? ⟨b, j, none⟩ = some v) : (W.alloc o).cell? ⟨b, j, none⟩ = some v :=
  ((below1 W o).cell (p := ⟨b, j, none⟩) (cell_lt h)).trans h
theorem tab_as {W : World} {T base n : Nat} {vs : Nat → Value} {c c' : Nat} {F F' : Nat → List Int} (h : Tab W T base n vs F c) (he : ∀ k, k < n → F k = F' k) (hc : c ≤ c') : Tab W T base n vs F' c' :=
  ⟨h.blk, fun i hi => he i hi ▸ h.row i hi, h.apart, h.lo, fun i hi => he i hi ▸ Nat.le_trans (h.few i hi) hc⟩
def BehP (x : CoD) (w : World) (e : Ending) (w' : World) : Prop :=
  ∃ T base vs, e = .returned (.slice (some ⟨T, 0, none⟩) x.ins.length x.ins.length) ∧ Hid (Tab w' T base x.ins.length vs (behE (eds x.ins x.ins.length)) (2 * x.ins.length)) ∧ Hid (w.heap.size ≤ T ∧ base ≤ w'.heap.size ∧ Below w.heap.size w w')
/-- The edges that stay inside, of the first i. -/
def edsF (x : CoD) : Nat → List (Int × Int)
  | 0 => []
  | i + 1 => edsF x i ++ (edgesL x i).map fun y => ((i : Int), y)
theorem edsF_filter (x : CoD) : ∀ i, i ≤ x.ins.length → edsF x i = (eds x.ins i).filter (fun p => inN x.ins.length p.2)
  | 0, _ => rfl
  | i + 1, h => by
    obtain ⟨r, hr⟩ := get_some (l := x.ins) (i := i) rfl (by omega)
    unfold edsF
    rw [eds_succ hr, List.filter_append, edsF_filter x i (by omega)]
    congr 1
    unfold edgesL rowE
    rw [hr, List.filter_map]
    rfl
theorem edsF_len (x : CoD) (i : Nat) : (edsF x i).length ≤ 2 * i := by
  induction i with
  | zero => simp [edsF]
  | succ i ih =>
    unfold edsF
    have := edges_few x i
    simp
    omega
theorem edsF_beh (x : CoD) {k : Nat} (hk : k < x.ins.length) : behE (edsF x x.ins.length) k = behE (eds x.ins x.ins.length) k := by
  rw [edsF_filter x _ (Nat.le_refl _), behE_in _ _ hk]
set_option maxRecDepth 100000 in
set_option maxHeartbeats 8000000 in
theorem rbehind_g (x : CoD) (va fa ia : Option Addr) (vc fc ic : Nat) (w : World) (hs : x.ins.length < 1000000) (hC : RowM 13 InAt w ia x.ins) :
    Calls Try.prog 25 #[.agg (CoV x va vc fa fc ia ic)] w (BehP x w) := by
  obtain ⟨i3t, hti3, hz03, hz13, hz23⟩ := info_parts info3
  obtain ⟨i7t, hti7, hz07, hz17, hz27⟩ := info_parts info27
  have HX := hid (heap_alloc_new w (.cells (CoV x va vc fa fc ia ic) 30))
  have HB := hid (below1 w (.cells (CoV x va vc fa fc ia ic) 30))
  have hx := cells_at HX.out
  have HC := hid hC
  have HM : Hid (i7t.bytes * x.ins.length ≤ 281474976710656) := hid (by rw [hz27]; omega)
  have HM3 : Hid (x.ins.length ≤ maxLen) := hid (by unfold maxLen; omega)
  have HN := hid hs
  have HNX := hid (fun (k : Nat) (r : InD) (W : World) (hb : Below w.heap.size w W) (hr : x.ins[k]? = some r) => rnext8_g x k r va fa ia vc fc ic W hr (by have := (List.getElem?_eq_some_iff.1 hr).1; omega) (HC.out.later in_stays hb))
  clear hC hs
  go_enter Try.func25, Try.ntmps25
  go_wp2_with (first
    | (at_make; refine wpList_make_full _ rfl _ _ 61 rfl (w.heap.size + 1) 27 i7t (.slice none 0 0) 1 Try.underlying61 hti7 hz07 hz17 .i64 .i64 (x.ins.length : Int) (x.ins.length : Int) x.ins.length rfl rfl rfl rfl HM.out HM3.out (by simp) ?_; intro w1 hown hgrow
       have HB1 := hid (HB.out.grown hgrow (by simp) (by rintro k e; cases e))
       have HT1 := hid (Tab.made hown)
       have HX1 := hid (hgrow.block w.heap.size (by simp) (by simp))
       have HZ1 := hid hgrow.size
       clear hown hgrow hx))
  have HS0 : Hid (BhS w (CoV x va vc fa fc ia ic) w.heap.size (w.heap.size + 1) (w.heap.size + 1 + 1) x.ins.length (fun _ => .slice none 0 0) (edsF x 0) w1) := hid ⟨HB1.out, HX1.out.trans HX.out, by have := HT1.out; rw [World.size_alloc] at this; exact this, by have := HT1.out.lt; rw [World.size_alloc] at this; exact this, Nat.le_refl _, Nat.lt_succ_self _⟩
  obtain ⟨T, hT⟩ : ∃ T, w.heap.size + 1 = T := ⟨_, rfl⟩
  obtain ⟨Cb, hCb⟩ : ∃ Cb, w.heap.size = Cb := ⟨_, rfl⟩
  have HTC : Hid (w.heap.size ≤ T) := hid (by omega)
  rw [hT] at HS0 ⊢
  rw [hCb] at HS0 ⊢
  clear hT hCb HB1 HT1 HX1 HZ1 HB HX HM HM3
  have HNE : Hid (x.ins.length = x.ins.length) := hid rfl
  go_loopg [4] x.ins.length (fun gk p wr => ∃ (i : Nat) (vs : Nat → Value), i ≤ x.ins.length ∧ gk = x.ins.length - i ∧ p = .int .i64 i ∧ Hid (BhS w (CoV x va vc fa fc ia ic) Cb T (T + 1) x.ins.length vs (edsF x i) wr))
  case atStart => exact ⟨0, _, by omega, by omega, rfl, HS0⟩
  case round =>
    clear HS0
    obtain ⟨i, vs, hi, rfl, rfl, HS⟩ := hrel
    have hx := cells_at HS.out.box
    have n9 : x.ins.length < 1000000 := HN.out
    by_cases hin : i < x.ins.length
    · have hin' : (i : Int) < (x.ins.length : Int) := by omega
      have i0 : (0 : Int) ≤ (i : Int) := by omega
      obtain ⟨r, hr⟩ := get_some (l := x.ins) (i := i) HNE.out hin
      have HR := hid hr
      clear hr
      go_wp2_with (go_at_call 13; go_must (refine (HNX.out i r _ HS.out.bel HR.out).mono ?_); rintro e w8 ⟨v8, rfl, hi8, ho8, hb8⟩; have HS8 := hid (HS.out.later hb8.out); have HAP := hid (fun (j g : Nat) (hj : j < x.ins.length) (q : (vs j).ownBlock = some g) (e : v8.ownBlock = some g) => (Nat.lt_irrefl _ (Nat.lt_of_lt_of_le (row_lt (HS.out.tab.row j hj) q).2 (row_lt ho8.out e).1) : False)); have HO8 := hid ho8.out; obtain ⟨A8, c8, rfl, -⟩ := hi8.out; clear hi8 ho8 hb8 hx)
      obtain ⟨lo5, hlo5⟩ : ∃ lo5, wr.heap.size = lo5 := ⟨_, rfl⟩
      rw [hlo5] at HO8
      clear hlo5 HS
      obtain ⟨E, hE⟩ : ∃ E, edgesL x i = E := ⟨_, rfl⟩
      have HE := hid hE
      rw [hE] at HO8 HAP ⊢
      obtain ⟨qe, hqe⟩ : ∃ qe, E.length = qe := ⟨_, rfl⟩
      have HQE := hid hqe
      have hqe2 : qe ≤ 2 := by rw [← hqe, ← hE]; exact edges_few x i
      rw [hqe] at HO8 HAP ⊢
      have HS9 : Hid (BhS w (CoV x va vc fa fc ia ic) Cb T (T + 1) x.ins.length vs (edsF x i ++ (E.take 0).map fun y => ((i : Int), y)) w8) := hid (by simpa using HS8.out)
      clear hE hqe HS8
      go_loopg [6] qe (fun gk p wi => ∃ (j : Nat) (vs : Nat → Value), j ≤ qe ∧ gk = qe - j ∧ p = .int .i64 j ∧ Hid (BhS w (CoV x va vc fa fc ia ic) Cb T (T + 1) x.ins.length vs (edsF x i ++ (E.take j).map fun y => ((i : Int), y)) wi) ∧ Hid (OwnInts wi lo5 (.slice A8 qe c8) E) ∧ Hid (∀ j g, j < x.ins.length → (vs j).ownBlock = some g → (Value.slice A8 qe c8).ownBlock ≠ some g))
      case atStart => exact ⟨0, vs, by omega, by omega, rfl, HS9, HO8, HAP⟩
      case round =>
        clear HS9 HO8 HAP
        obtain ⟨j, vs, hj, rfl, rfl, HS, HO, HAP⟩ := hrel
        by_cases hjq : j < qe
        · have hjq' : (j : Int) < (qe : Int) := by omega
          have j0 : (0 : Int) ≤ (j : Int) := by omega
          obtain ⟨y, hy⟩ := get_some HQE.out hjq
          obtain ⟨k, rfl, hk, hky⟩ := edges_get (x := x) (k := i) (i := j) (v := y) (by rw [HE.out]; exact hy)
          have HY := hid (show (E.take (j + 1)).map (fun y => ((i : Int), y)) = (E.take j).map (fun y => ((i : Int), y)) ++ [((i : Int), (k : Int))] by rw [List.take_add_one, hy]; simp)
          obtain ⟨b8, rfl, hb8, hc8⟩ := own_cell HO.out hy
          obtain ⟨l, hl⟩ : ∃ l, edsF x i ++ (E.take j).map (fun y => ((i : Int), y)) = l := ⟨_, rfl⟩
          have HL := hid hl
          rw [hl] at HS
          have HLL : Hid ((behE l k).length ≤ 2000002) := hid (by
            have h1 := edsF_len x i
            have h2 := HS.out.tab.few k hk
            have h3 : l.length = (edsF x i).length + (E.take j).length := by rw [← hl]; simp
            have h4 := List.length_take_le j E
            have := HN.out
            omega)
          have k0 : (0 : Int) ≤ (k : Int) := by omega
          have k1 : (k : Int) < (x.ins.length : Int) := by omega
          have hct := HS.out.tab.cell hk
          have hft := HS.out.tab.soft k
          have HS2 := hid ((HS.out.later (below1 wr (.cells #[.int .i64 (i : Int)] 3))).later (below_drew1 _))
          have hct2 := HS2.out.tab.cell hk
          have hcd : wr.drew.cell? ⟨T, k, none⟩ = some (vs k) := hct
          have hc8d : wr.drew.cell? ⟨b8, j, none⟩ = some (.int .i64 (k : Int)) := hc8
          have HO2 : Hid (OwnInts (wr.alloc (.cells #[.int .i64 (i : Int)] 3)).drew lo5 (.slice (some ⟨b8, 0, none⟩) qe c8) E) := hid (row_at HO.out (fun g q => (below1 wr (.cells #[.int .i64 (i : Int)] 3)).block g (row_lt HO.out q).2))
          have hc8a := (cells_al wr (.cells #[.int .i64 (i : Int)] 3) hc8)
          have hcta : (wr.alloc (.cells #[.int .i64 (i : Int)] 3)).cell? ⟨T, k, none⟩ = some (vs k) := hct2
          have hc8b : (wr.alloc (.cells #[.int .i64 (i : Int)] 3)).drew.cell? ⟨b8, j, none⟩ = some (.int .i64 (k : Int)) := hc8a
          have HCC := hid hc8
          have HK := hid hk
          clear hy hky hl hb8
          go_wp2
          go_region_law (refine step_append_at rfl (.tmp 38) (.tmp 40) 27 rfl (T + 1) 3 i3t (.int .i64 0) 1 8 Try.underlying27 hti3 hz03 hz13 hz23 rfl (by decide) (vs k) (behE l k).length ((behE l k).map (.int .i64)) rfl (HS2.out.tab.row k HK.out) _ 1 1 [.int .i64 (i : Int)] rfl rfl (one_at _ _ _ rfl) (by intro u hu; simp at hu; subst hu; rfl) (by have := HLL.out; unfold maxLen; omega) (by have := HLL.out; omega) (by have := HS2.out.hi; simpa using this) ?_
                         intro v' w4 hown hgrow hblk
                         obtain ⟨A4, c4, rfl⟩ := own_slice hown
                         have HPU := hid (HS2.out.push HK.out hown hgrow hblk)
                         have HPA := hid (apart_push (u := .slice A4 ((behE l k).length + 1) c4) HS2.out HK.out HO2.out HAP.out hgrow hblk)
                         have hf2 := HPU.out.1
                         have hf3 := HPU.out.2.1
                         have hf4 := grown_cell hgrow hc8b (fun e => HAP.out k b8 HK.out e rfl)
                         clear hown hgrow hblk)
          all_goals
            have HPB : Hid (BhS w (CoV x va vc fa fc ia ic) Cb T (T + 1) x.ins.length _ (edsF x i ++ (E.take (j + 1)).map fun y => ((i : Int), y)) (w4.setCell ⟨T, k, none⟩ (.slice A4 ((behE l k).length + 1) c4))) := hid (by rw [HY.out, ← List.append_assoc, HL.out]; exact HPU.out.2.2)
            clear HPU hf2 hf3 hf4 HS2 HO2 hct2 hc8a hc8b hcta hcd hc8d hct hft
            go_wp2
            go_roundg (qe - (j + 1))
            case measure => omega
            case rel => exact ⟨j + 1, _, by omega, rfl, rfl, HPB, hid HPA.out.1, hid HPA.out.2⟩
        · have hjq' : ¬ (j : Int) < (qe : Int) := by omega
          have HS9 : Hid (BhS w (CoV x va vc fa fc ia ic) Cb T (T + 1) x.ins.length vs (edsF x (i + 1)) wr) := hid (by
            have h1 := HS.out
            rw [List.take_of_length_le (by have := HQE.out; omega)] at h1
            unfold edsF
            rw [HE.out]
            exact h1)
          go_wp2
          go_roundg (x.ins.length - (i + 1))
          case measure => omega
          case rel => exact ⟨i + 1, vs, by omega, rfl, rfl, HS9⟩
    · have hin' : ¬ (i : Int) < (x.ins.length : Int) := by omega
      obtain rfl : i = x.ins.length := by omega
      go_wp2
      go_ret
      exact ⟨T, T + 1, vs, rfl, hid (tab_as HS.out.tab (fun k hk => edsF_beh x hk) (edsF_len x _)), hid ⟨HTC.out, HS.out.hi, HS.out.bel⟩⟩
end Go.Proofs.Ytlbcinanpnjjjaa
