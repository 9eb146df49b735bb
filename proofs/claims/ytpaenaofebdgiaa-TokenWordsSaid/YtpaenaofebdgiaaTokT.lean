/- What Scan keeps between two rounds: the plain laws. No conditions. -/
import Derived.Test.YtpaenaofebdgiaaTokS
import Derived.Shelf.RegionOpen
namespace Go.Proofs.Ytpaenaofebdgiaa
open Go.RowKit Go.Shelf
attribute [local go_sem] Oper.semAt_some

theorem each0_in (n : Nat) (s : ByteArray) (w : World) :
    CallsIn Fence.wide n Try.prog 21 #[.string s] w fun e w' => e = .returned (.func (.func 25) #[] #[.pointer (some ⟨w.heap.size, 0, none⟩)]) ∧ w' = w.alloc (.cells #[.string s] 9) := by
  refine callsIn_of_wp Try.func21 rfl trivial ?_ rfl
  simp only [Try.ntmps21, List.size_toArray, List.length_cons, List.length_nil, Nat.reduceAdd, Nat.reduceSub, Array.replicate_succ, Array.replicate_zero, List.push_toArray, List.append_toArray, List.nil_append, List.cons_append]
  gi_wp2
  go_ret
  exact ⟨rfl, rfl⟩

def tokCells (x : El) : List Value := [.int .i64 x.kind, .string x.tx, .int .i64 x.num, .int .i64 x.line, .int .i64 x.col]
abbrev tokObj (x : El) : Obj := .cells #[.int .i64 x.kind, .string x.tx, .int .i64 x.num, .int .i64 x.line, .int .i64 x.col] 27
abbrev diagObj (x : El) : Obj := .cells #[.int .i64 x.st, .int .i64 x.wh, .int .i64 x.dl, .int .i64 x.dc] 34

theorem near_block {S k : Nat} {A B : World} {o : Obj} (h : Near S A B) (hb : A.heap[k]? = some o) (hk : k < S ∨ S + 3 ≤ k) : B.heap[k]? = some o :=
  (h.block k (Array.getElem?_eq_some_iff.1 hb).1 hk).trans hb
theorem near_row {S : Nat} {A B : World} {e : TypeId} {size n : Nat} {v : Value} {xs : List Value} (h : Near S A B) (hr : A.ownsRow (S + 3) e size v n xs) : B.ownsRow (S + 3) e size v n xs := by
  refine ⟨hr.1, ?_⟩
  rcases hr.2 with q | ⟨g, cap, cur, hv, hb, hg, rest⟩
  · exact .inl q
  · exact .inr ⟨g, cap, cur, hv, hb, near_block h hg (.inr hb), rest⟩
theorem near_below {S n : Nat} {w A B : World} (h : Near S A B) (hb : Below n w A) (hn : n ≤ S) (hw : n ≤ w.heap.size) : Below n w B :=
  hb.trans ⟨h.os, h.tape, h.output, h.size, fun k hk => h.block k (by have := hb.size; omega) (.inl (by omega))⟩

/-- Between two rounds of Scan. -/
def InvS (w : World) (pre : List El) (W : World) : Prop :=
  W.heap[w.heap.size]? = some (.cells #[.slice none 0 0] 22 (0, 0)) ∧ W.heap[w.heap.size + 1]? = some (.cells #[.int .i64 0, .int .i64 0, .int .i64 0, .int .i64 0] 34 (0, 0)) ∧
  (∃ v, W.heap[w.heap.size + 2]? = some (.cells #[v] 22 (0, 0)) ∧ W.ownsRow (w.heap.size + 4 + 3) 27 5 v pre.length (pre.flatMap tokCells)) ∧ (∀ y ∈ pre, y.wh = 0) ∧ Below w.heap.size w W
/-- A round has returned. -/
def OutS (w : World) (c : Code) (xs : List El) (W : World) : Prop :=
  c = .ret ∧ ∃ pre x, xs = pre ++ [x] ∧ x.wh ≠ 0 ∧ W.heap[w.heap.size]? = some (.cells #[.slice none 0 0] 22 (0, 0)) ∧ W.heap[w.heap.size + 1]? = some (diagObj x) ∧ Below w.heap.size w W
theorem InvS.near {w A B : World} {pre : List El} (h : InvS w pre A) (hn : Near (w.heap.size + 4) A B) : InvS w pre B := by
  obtain ⟨h1, h2, ⟨v, h3, h4⟩, h5, h6⟩ := h
  exact ⟨near_block hn h1 (.inl (by omega)), near_block hn h2 (.inl (by omega)), ⟨v, near_block hn h3 (.inl (by omega)), near_row hn h4⟩, h5, near_below hn h6 (by omega) (Nat.le_refl _)⟩
theorem OutS.near {w A B : World} {c : Code} {xs : List El} (h : OutS w c xs A) (hn : Near (w.heap.size + 4) A B) : OutS w c xs B := by
  obtain ⟨hc, pre, x, h0, h1, h2, h3, h4⟩ := h
  exact ⟨hc, pre, x, h0, h1, near_block hn h2 (.inl (by omega)), near_block hn h3 (.inl (by omega)), near_below hn h4 (by omega) (Nat.le_refl _)⟩
theorem blk1 {W : World} {k t : Nat} {v : Value} (h : W.heap[k]? = some (.cells #[v] t (0, 0))) : W.cell? ⟨k, 0, none⟩ = some v ∧ W.frozen? ⟨k, 0, none⟩ = false := by
  simp [World.cell?, World.frozen?, h]
theorem blk4 {W : World} {k t : Nat} {v0 v1 v2 v3 : Value} (h : W.heap[k]? = some (.cells #[v0, v1, v2, v3] t (0, 0))) :
    (W.cell? ⟨k, 0, none⟩ = some v0 ∧ W.cell? ⟨k, 1, none⟩ = some v1 ∧ W.cell? ⟨k, 2, none⟩ = some v2 ∧ W.cell? ⟨k, 3, none⟩ = some v3) ∧
    (W.frozen? ⟨k, 0, none⟩ = false ∧ W.frozen? ⟨k, 1, none⟩ = false ∧ W.frozen? ⟨k, 2, none⟩ = false ∧ W.frozen? ⟨k, 3, none⟩ = false) := by
  simp [World.cell?, World.frozen?, h]
theorem eachL_bad {src : List UInt8} {fuel k ln hd k1 l1 h1 f size : Nat} (hk : skipL false (src.drop k) k ln hd = (k1, l1, h1)) (hr : readL (src.drop k1) = .bad f size) :
    eachL src (fuel + 1) k ln hd = ([], some ⟨f, l1, k1 - h1 + 1⟩) := by
  unfold eachL
  simp only [hk, hr]
theorem eachL_end {src : List UInt8} {fuel k ln hd k1 l1 h1 kind num size : Nat} {text : List UInt8} (hk : skipL false (src.drop k) k ln hd = (k1, l1, h1)) (hr : readL (src.drop k1) = .tok kind text num size) (h5 : kind = 5) :
    eachL src (fuel + 1) k ln hd = ([⟨kind, text, num, l1, k1 - h1 + 1, k1⟩], none) := by
  unfold eachL
  simp only [hk, hr, h5, if_true]
theorem eachL_on {src : List UInt8} {fuel k ln hd k1 l1 h1 kind num size : Nat} {text : List UInt8} (hk : skipL false (src.drop k) k ln hd = (k1, l1, h1)) (hr : readL (src.drop k1) = .tok kind text num size) (h5 : kind ≠ 5) :
    eachL src (fuel + 1) k ln hd = (⟨kind, text, num, l1, k1 - h1 + 1, k1⟩ :: (eachL src fuel (k1 + size) l1 h1).1, (eachL src fuel (k1 + size) l1 h1).2) := by
  rw [eachL]
  simp only [hk, hr, if_neg h5]
theorem eachL_len : ∀ (src : List UInt8) (fuel k ln h : Nat), (elems (eachL src fuel k ln h)).length ≤ fuel + 1
  | src, 0, k, ln, h => by simp [eachL, elems]
  | src, fuel + 1, k, ln, h => by
    obtain ⟨k1, l1, h1, hk⟩ : ∃ k1 l1 h1, skipL false (src.drop k) k ln h = (k1, l1, h1) := ⟨_, _, _, rfl⟩
    cases hr : readL (src.drop k1) with
    | bad f size => rw [eachL_bad hk hr]; simp [elems]
    | tok kind text num size =>
      by_cases h5 : kind = 5
      · rw [eachL_end hk hr h5]; simp [elems]
      · rw [eachL_on hk hr h5]
        have := eachL_len src fuel (k1 + size) l1 h1
        simp [elems] at this ⊢
        omega
theorem eachL_fault : ∀ (src : List UInt8) (fuel k ln h : Nat) (d : D), (eachL src fuel k ln h).2 = some d → d.fault = 2 ∨ d.fault = 3
  | src, 0, k, ln, h, d, e => by simp [eachL] at e
  | src, fuel + 1, k, ln, h, d, e => by
    obtain ⟨k1, l1, h1, hk⟩ : ∃ k1 l1 h1, skipL false (src.drop k) k ln h = (k1, l1, h1) := ⟨_, _, _, rfl⟩
    cases hr : readL (src.drop k1) with
    | bad f size =>
      rw [eachL_bad hk hr] at e
      simp at e
      subst e
      exact read_bad hr
    | tok kind text num size =>
      by_cases h5 : kind = 5
      · rw [eachL_end hk hr h5] at e; simp at e
      · rw [eachL_on hk hr h5] at e
        exact eachL_fault src fuel (k1 + size) l1 h1 d e
theorem scan_done {src : List UInt8} (h : ∀ y ∈ elems (scanL src), y.wh = 0) : (scanL src).2 = none ∧ elems (scanL src) = (scanL src).1.map elT := by
  cases hd : (scanL src).2 with
  | none => exact ⟨rfl, by simp [elems, hd]⟩
  | some d =>
    have hf := eachL_fault _ _ _ _ _ d hd
    have := h (elD d) (by simp [elems, hd])
    simp [elD] at this
    omega
theorem scan_stop {src : List UInt8} {pre rest : List El} {x : El} (h : elems (scanL src) = pre ++ x :: rest) (hx : x.wh ≠ 0) : ∃ d, (scanL src).2 = some d ∧ x = elD d := by
  have hm : x ∈ elems (scanL src) := by rw [h]; simp
  unfold elems at hm
  rcases List.mem_append.1 hm with hm | hm
  · obtain ⟨t, -, rfl⟩ := List.mem_map.1 hm
    exact absurd rfl hx
  · cases hd : (scanL src).2 with
    | none => rw [hd] at hm; simp at hm
    | some d => rw [hd] at hm; simp at hm; exact ⟨d, rfl, hm⟩
/-- What Scan hands back. -/
def ScanPost (s : ByteArray) (w : World) (e : Ending) (w' : World) : Prop :=
  Below w.heap.size w w' ∧
  (((scanL s.data.toList).2 = none ∧ ∃ v, e = .returned (.tuple #[v, diagV 0 0 0 0]) ∧ w'.ownsRow w.heap.size 27 5 v (scanL s.data.toList).1.length (((scanL s.data.toList).1.map elT).flatMap tokCells)) ∨
   (∃ d, (scanL s.data.toList).2 = some d ∧ e = .returned (.tuple #[.slice none 0 0, diagV 1 d.fault d.line d.col])))
theorem res_scan {fn : Func} (hres : fn.results = #[.cell 2 22, .cell 3 34]) {x : Array Value} {k2 k3 : Nat} {v u0 u1 u2 u3 : Value} {W : World}
    (h2 : x[2]?.getD undef = .pointer (some ⟨k2, 0, none⟩)) (h3 : x[3]?.getD undef = .pointer (some ⟨k3, 0, none⟩)) (hb2 : W.heap[k2]? = some (.cells #[v] 22 (0, 0))) (hb3 : W.heap[k3]? = some (.cells #[u0, u1, u2, u3] 34 (0, 0))) :
    (results fn x).run Try.prog W = .ok (.tuple #[v, .agg #[u0, u1, u2, u3]]) W := by
  obtain ⟨c0, -⟩ := blk1 hb2
  obtain ⟨⟨d0, d1, d2, d3⟩, -⟩ := blk4 hb3
  simp [results, hres, go_sem, h2, h3, c0, d0, d1, d2, d3]
/-- The results are written. -/
abbrev outW (W : World) (b2 b3 : Nat) (v u0 u1 u2 u3 : Value) : World :=
  ((((W.setCell ⟨b2, 0, none⟩ v).setCell ⟨b3, 0, none⟩ u0).setCell ⟨b3, 1, none⟩ u1).setCell ⟨b3, 2, none⟩ u2).setCell ⟨b3, 3, none⟩ u3
theorem outW_facts {W : World} {b2 b3 : Nat} {a c0 c1 c2 c3 : Value} (v u0 u1 u2 u3 : Value) (g1 : W.heap[b2]? = some (.cells #[a] 22 (0, 0))) (g2 : W.heap[b3]? = some (.cells #[c0, c1, c2, c3] 34 (0, 0))) (hne : b2 ≠ b3) :
    (outW W b2 b3 v u0 u1 u2 u3).heap[b2]? = some (.cells #[v] 22 (0, 0)) ∧ (outW W b2 b3 v u0 u1 u2 u3).heap[b3]? = some (.cells #[u0, u1, u2, u3] 34 (0, 0)) ∧
    (∀ k, k ≠ b2 → k ≠ b3 → (outW W b2 b3 v u0 u1 u2 u3).heap[k]? = W.heap[k]?) ∧ (outW W b2 b3 v u0 u1 u2 u3).heap.size = W.heap.size := by
  have h1 : ¬ b3 = b2 := fun e => hne e.symm
  refine ⟨?_, ?_, fun k q1 q2 => ?_, by simp [outW, World.setCell]⟩
  · simp [outW, World.setCell, Array.getElem?_modify, g1, h1]
  · simp [outW, World.setCell, Array.getElem?_modify, g2, hne]
  · have q3 : ¬ b2 = k := fun e => q1 e.symm
    have q4 : ¬ b3 = k := fun e => q2 e.symm
    simp [outW, World.setCell, Array.getElem?_modify, q3, q4]
theorem out_step {w W W' : World} {S N : Nat} {Wa : World} {pre : List El} {x : El} (hS : S = w.heap.size + 4) (hwa : w.heap.size + 3 ≤ Wa.heap.size) (h6 : Below w.heap.size w W)
    (hos : W'.os = W.os) (htp : W'.tape = W.tape) (hou : W'.output = W.output) (hsz : W'.heap.size = W.heap.size)
    (h2 : W'.heap[w.heap.size]? = some (.cells #[.slice none 0 0] 22 (0, 0))) (h3 : W'.heap[w.heap.size + 1]? = some (diagObj x)) (hk : ∀ k, k ≠ w.heap.size → k ≠ w.heap.size + 1 → W'.heap[k]? = W.heap[k]?) (hx : x.wh ≠ 0) :
    Held S N Wa W W' ∧ OutS w .ret (pre ++ [x]) W' := by
  subst hS
  exact ⟨⟨Nat.le_of_eq hsz.symm, fun k _ hk2 => hk k (by omega) (by omega)⟩, rfl, pre, x, rfl, hx, h2, h3, h6.trans ⟨hos, htp, hou, Nat.le_of_eq hsz.symm, fun k hk2 => hk k (by omega) (by omega)⟩⟩
theorem Try.info27 : (Try.prog.info? 27).map (fun i => (i.zero, i.size, i.bytes)) = some (some (.agg #[.int .i64 0, .string ⟨#[]⟩, .int .i64 0, .int .i64 0, .int .i64 0]), 5, 48) := by kernel_rfl
theorem cell_tok_new (W : World) (x : El) : ∀ j u, (tokCells x)[j]? = some u → (W.alloc (tokObj x)).cell? ((⟨W.heap.size, 0, none⟩ : Addr).add j) = some u := by
  intro j u h
  have hb := (blk5 (heap_alloc_new W (tokObj x))).1
  match j, h with
  | 0, h => simp [tokCells] at h; subst h; exact hb.1
  | 1, h => simp [tokCells] at h; subst h; exact hb.2.1
  | 2, h => simp [tokCells] at h; subst h; exact hb.2.2.1
  | 3, h => simp [tokCells] at h; subst h; exact hb.2.2.2.1
  | 4, h => simp [tokCells] at h; subst h; exact hb.2.2.2.2
  | n + 5, h => simp [tokCells] at h
theorem tok_one (x : El) : ∀ u ∈ tokCells x, u.oneCell' = true := by
  intro u hu
  simp only [tokCells, List.mem_cons, List.mem_nil_iff, or_false] at hu
  rcases hu with rfl | rfl | rfl | rfl | rfl <;> rfl
theorem inv_step {w Wa W w1 : World} {N : Nat} {pre : List El} {x : El} {v : Value} {g' cap' : Nat} {o : Obj}
    (hI : InvS w pre W) (g3 : W.heap[w.heap.size + 2]? = some (.cells #[v] 22 (0, 0))) (g4 : W.ownsRow (w.heap.size + 4 + 3) 27 5 v pre.length (pre.flatMap tokCells)) (hga : ∀ g, v.ownBlock = some g → g < Wa.heap.size)
    (hwa : w.heap.size + 3 ≤ Wa.heap.size) (hsz : N ≤ W.heap.size) (hx : x.wh = 0)
    (hown : w1.ownsRow (w.heap.size + 4 + 3) 27 5 (.slice (some ⟨g', 0, none⟩) (pre.length + 1) cap') (pre.length + 1) (pre.flatMap tokCells ++ tokCells x)) (hgrow : (W.alloc o).grownBy w1 v.ownBlock) :
    Held (w.heap.size + 4) N Wa W (w1.setCell ⟨w.heap.size + 2, 0, none⟩ (.slice (some ⟨g', 0, none⟩) (pre.length + 1) cap')) ∧
    InvS w (pre ++ [x]) (w1.setCell ⟨w.heap.size + 2, 0, none⟩ (.slice (some ⟨g', 0, none⟩) (pre.length + 1) cap')) := by
  obtain ⟨h1, h2, -, h5, h6⟩ := hI
  have hsz1 := hgrow.size
  rw [World.size_alloc] at hsz1
  have hw6 := h6.size
  have low : ∀ k, k < w.heap.size + 4 + 3 → k < W.heap.size → w1.heap[k]? = W.heap[k]? := fun k hk hk2 => by
    rw [hgrow.block k (by rw [World.size_alloc]; omega) (fun e => by have := (g4.lt k e.symm).1; omega)]
    exact Below.heap_alloc _ _ _ hk2
  have b4 : w.heap.size + 2 < W.heap.size := (Array.getElem?_eq_some_iff.1 g3).1
  refine ⟨⟨?_, ?_⟩, ?_, ?_, ⟨.slice (some ⟨g', 0, none⟩) (pre.length + 1) cap', ?_, ?_⟩, ?_, ?_⟩
  · rw [show (w1.setCell ⟨w.heap.size + 2, 0, none⟩ (.slice (some ⟨g', 0, none⟩) (pre.length + 1) cap')).heap.size = w1.heap.size by simp [World.setCell]]; omega
  · intro k hk hk2
    rw [Below.heap_setCell _ _ _ _ (by show k ≠ w.heap.size + 2; omega), hgrow.block k (by rw [World.size_alloc]; omega) (fun e => by
      have a1 := (g4.lt k e.symm).1
      have a2 := hga k e.symm
      omega)]
    exact Below.heap_alloc _ _ _ (by omega)
  · rw [Below.heap_setCell _ _ _ _ (by show w.heap.size ≠ w.heap.size + 2; omega), low _ (by omega) (by omega)]; exact h1
  · rw [Below.heap_setCell _ _ _ _ (by show w.heap.size + 1 ≠ w.heap.size + 2; omega), low _ (by omega) (by omega)]; exact h2
  · have e : w1.heap[w.heap.size + 2]? = some (.cells #[v] 22 (0, 0)) := (low _ (by omega) b4).trans g3
    simp [World.setCell, Array.getElem?_modify, e]
  · rw [List.length_append, List.flatMap_append]
    have hk := (hown.lt g' rfl).1
    have := hown.kept (grownBy_setCell' w1 (w.heap.size + 2) (.slice (some ⟨g', 0, none⟩) (pre.length + 1) cap')) (.inr (by simp [Value.ownBlock]; omega))
    simpa using this
  · intro y hy
    rcases List.mem_append.1 hy with hy | hy
    · exact h5 y hy
    · rw [List.mem_singleton.1 hy]; exact hx
  · refine (((h6.alloc hw6 o).grown hgrow (by rw [World.size_alloc]; omega) (fun k e => by have := (g4.lt k e).1; omega)).setCell (p := ⟨w.heap.size + 2, 0, none⟩) (by show w.heap.size ≤ w.heap.size + 2; omega) _)
end Go.Proofs.Ytpaenaofebdgiaa
