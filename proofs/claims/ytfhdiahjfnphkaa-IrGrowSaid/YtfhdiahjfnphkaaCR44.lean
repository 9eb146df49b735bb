/- Functions with one variable more, in memory. No conditions. -/
import Derived.Test.YtfhdiahjfnphkaaCR43
import Derived.Test.YtfhdiahjfnphkaaCR17
import Derived.Test.YtfhdiahjfnphkaaCR10
namespace Go.Proofs.Ytfhdiahjfnphkaa
open Go.RowKit Go.Maps
set_option linter.unusedVariables false
set_option linter.unusedSimpArgs false
theorem info33 : (Try.prog.info? 33).map (fun i => (i.zero, i.size, i.bytes)) = some (some (.agg #[.bool false, .string ⟨#[]⟩, .int .i64 0]), 3, 32) := by kernel_rfl
theorem info37 : (Try.prog.info? 37).map (fun i => (i.zero, i.size, i.bytes)) = some (some (.agg #[.string ⟨#[]⟩, .int .i64 0, .slice none 0 0, .bool false, .string ⟨#[]⟩, .int .i64 0, .slice none 0 0, .slice none 0 0]), 8, 128) := by kernel_rfl
section
variable {α : Type} {f : α → List Value} {k : Nat}
theorem flat_get (hk : ∀ x, (f x).length = k) : ∀ {l : List α} {i : Nat} {x : α} {j : Nat} {u : Value}, l[i]? = some x → (f x)[j]? = some u → (l.flatMap f)[i * k + j]? = some u
  | [], _, _, _, _, h, _ => by simp at h
  | a :: l, 0, x, j, u, h, hu => by
    simp at h
    subst h
    rw [List.flatMap_cons, Nat.zero_mul, Nat.zero_add, List.getElem?_append_left (List.getElem?_eq_some_iff.1 hu).1]
    exact hu
  | a :: l, i + 1, x, j, u, h, hu => by
    rw [List.flatMap_cons, List.getElem?_append_right (by rw [hk, Nat.add_mul]; omega), hk, show (i + 1) * k + j - k = i * k + j by rw [Nat.add_mul]; omega]
    exact flat_get hk (by simpa using h) hu
theorem flat_inv (hk : ∀ x, (f x).length = k) : ∀ {l : List α} {j : Nat} {u : Value}, (l.flatMap f)[j]? = some u → ∃ i x r, l[i]? = some x ∧ (f x)[r]? = some u ∧ j = i * k + r
  | [], j, u, h => by simp at h
  | a :: l, j, u, h => by
    rw [List.flatMap_cons] at h
    by_cases hj : j < (f a).length
    · rw [List.getElem?_append_left hj] at h
      exact ⟨0, a, j, rfl, h, by omega⟩
    · rw [List.getElem?_append_right (by omega), hk] at h
      obtain ⟨i, x, r, h1, h2, h3⟩ := flat_inv hk h
      exact ⟨i + 1, x, r, by simpa using h1, h2, by rw [hk] at hj; rw [Nat.add_mul]; omega⟩
theorem flat_len (hk : ∀ x, (f x).length = k) (l : List α) : (l.flatMap f).length = l.length * k := by
  induction l with
  | nil => simp
  | cons a l ih => rw [List.flatMap_cons, List.length_append, hk, ih, List.length_cons, Nat.add_mul]; omega
end
theorem row_cells {W : World} {base n e size : Nat} {v : Value} {xs : List Value} (h : W.ownsRow base e size v n xs) (hn : n ≠ 0) :
    ∃ g cap, v = .slice (some ⟨g, 0, none⟩) n cap ∧ g < W.heap.size ∧ base ≤ g ∧ ∀ j u, xs[j]? = some u → W.cell? ⟨g, j, none⟩ = some u := by
  rcases h.2 with ⟨-, e⟩ | ⟨g, cap, cur, hv, hb, hg, hc, hm, -⟩
  · exact absurd e hn
  · refine ⟨g, cap, hv, (Array.getElem?_eq_some_iff.1 hg).1, hb, fun j u hu => ?_⟩
    have := h.cells (g := g) (by rw [hv]; rfl) j u hu
    unfold Addr.add at this
    split at this
    · rename_i hj; subst hj; exact this
    · simpa using this
abbrev vaF (v : VaD) : List Value := (VaV v).toList
theorem vaF_len (v : VaD) : (vaF v).length = 3 := rfl
/-- A row of variables that is owned, as a slice. -/
theorem vars_owns {W : World} {base n : Nat} {v : Value} {vs : List VaD} (h : W.ownsRow base 33 3 v n (vs.flatMap vaF)) (hn : n = vs.length) (hl : vs.length ≤ 9223372036854775807) : ∃ A c, v = .slice A vs.length c ∧ RowM 3 VaAt W A vs ∧ ∀ a, A = some a → base ≤ a.block ∨ vs = [] := by
  by_cases h0 : vs = []
  · subst h0
    rcases h.2 with ⟨rfl, -⟩ | ⟨g, cap, cur, rfl, -⟩
    · exact ⟨none, 0, rfl, ⟨by simp, fun i x hx => by simp at hx⟩, fun a _ => .inr rfl⟩
    · subst hn
      exact ⟨_, _, rfl, ⟨by simp, fun i x hx => by simp at hx⟩, fun a _ => .inr rfl⟩
  · obtain ⟨g, cap, rfl, hg, hb, hc⟩ := row_cells h (by rw [hn]; exact fun q => h0 (List.length_eq_zero_iff.1 q))
    subst hn
    refine ⟨_, _, rfl, ⟨hl, fun i x hx => ⟨g, 0, rfl, hg, fun j u hu => ?_⟩⟩, fun a ha => .inl (by cases ha; exact hb)⟩
    rw [Nat.zero_add]
    exact hc _ _ (flat_get vaF_len hx (by rw [← hu]; simp))
/-- The cells of variables that came in. -/
theorem vars_news {W : World} {b o : Nat} {vs : List VaD} (h : RowM 3 VaAt W (some ⟨b, o, none⟩) vs) : ∀ j u, (vs.flatMap vaF)[j]? = some u → W.cell? ((⟨b, o, none⟩ : Addr).add j) = some u := by
  intro j u hu
  obtain ⟨i, x, r, h1, h2, rfl⟩ := flat_inv vaF_len hu
  obtain ⟨b', o', e, -, hc⟩ := h.2 i x h1
  cases e
  have := hc r u (by rw [← h2]; simp)
  rw [Nat.add_assoc] at this
  unfold Addr.add
  split
  · rename_i hj; rw [hj] at this; exact this
  · exact this
theorem vars_one (vs : List VaD) : ∀ u ∈ vs.flatMap vaF, u.oneCell' = true := by
  intro u hu
  obtain ⟨v, -, h⟩ := List.mem_flatMap.1 hu
  simp only [vaF, List.mem_cons, List.not_mem_nil, or_false] at h
  rcases h with rfl | rfl | rfl <;> rfl
/-- One of the functions that are put, as it was put. -/
structure GC (w W : World) (M : Nat) (R : Option Nat) (c : CoD) (x : Array Value) : Prop where
  out : ∃ va vc fa fc ia ic, x = CoV (growC c) va vc fa fc ia ic ∧ RowM 3 VaAt W va (growC c).vs ∧ (∀ a, va = some a → (M < a.block ∧ a.block < W.heap.size) ∧ some a.block ≠ R) ∧ IntsM w fa c.fr ∧ RowM 13 InAt w ia c.ins
def GL (w W : World) (M : Nat) (R : Option Nat) (cs : List CoD) (l : List (Array Value)) : Prop := l.length = cs.length ∧ ∀ (i : Nat) c x, cs[i]? = some c → l[i]? = some x → GC w W M R c x
theorem row_kept {α : Type} {k : Nat} {P : World → Nat → Nat → α → Prop} {W W' : World} {b o : Nat} {l : List α} (h : RowM k P W (some ⟨b, o, none⟩) l) (hs : W.heap.size ≤ W'.heap.size) (hP : ∀ q x, P W b q x → P W' b q x) : RowM k P W' (some ⟨b, o, none⟩) l := by
  refine ⟨h.1, fun i x hx => ?_⟩
  obtain ⟨b', o', e, hlt, hp⟩ := h.2 i x hx
  cases e
  exact ⟨b, o, rfl, by omega, hP _ _ hp⟩
/-- A block that does not change keeps its variables. -/
theorem va_kept {W W' : World} {b : Nat} (hb : W'.heap[b]? = W.heap[b]?) : ∀ q x, VaAt W b q x → VaAt W' b q x := fun q x h j v hv => by
  have := h j v hv
  rw [← this]
  exact World.cell?_of_block (a := ⟨b, q + j, none⟩) hb
theorem GC.step {w W W' : World} {M : Nat} {R R' : Option Nat} {c : CoD} {x : Array Value} (h : GC w W M R c x) (hs : W.heap.size ≤ W'.heap.size) (hb : ∀ b, M < b → b < W.heap.size → some b ≠ R → W'.heap[b]? = W.heap[b]?) (hR : R' = R ∨ ∀ b, b < W.heap.size → some b ≠ R') : GC w W' M R' c x := by
  obtain ⟨va, vc, fa, fc, ia, ic, e, h1, h2, h3, h4⟩ := h.out
  refine ⟨va, vc, fa, fc, ia, ic, e, ?_, fun a ha => ?_, h3, h4⟩
  · cases va with
    | none => exact ⟨h1.1, fun i y hy => by obtain ⟨_, _, q, -⟩ := h1.2 i y hy; cases q⟩
    | some a =>
      obtain ⟨y, hy⟩ : ∃ y, (growC c).vs[0]? = some y := by
        rw [grow_vs]
        cases c.vs with
        | nil => exact ⟨_, rfl⟩
        | cons z l => exact ⟨_, rfl⟩
      obtain ⟨b, o, q, -, -⟩ := h1.2 0 y hy
      cases q
      have := h2 _ rfl
      exact row_kept h1 hs (va_kept (hb b this.1.1 this.1.2 this.2))
  · have := h2 a ha
    refine ⟨⟨this.1.1, by omega⟩, ?_⟩
    rcases hR with rfl | hR
    · exact this.2
    · exact hR _ this.1.2
theorem GL.step {w W W' : World} {M : Nat} {R R' : Option Nat} {cs : List CoD} {l : List (Array Value)} (h : GL w W M R cs l) (hs : W.heap.size ≤ W'.heap.size) (hb : ∀ b, M < b → b < W.heap.size → some b ≠ R → W'.heap[b]? = W.heap[b]?) (hR : R' = R ∨ ∀ b, b < W.heap.size → some b ≠ R') : GL w W' M R' cs l :=
  ⟨h.1, fun i c x h1 h2 => (h.2 i c x h1 h2).step hs hb hR⟩
theorem GL.push {w W : World} {M : Nat} {R : Option Nat} {cs : List CoD} {l : List (Array Value)} {c : CoD} {x : Array Value} (h : GL w W M R cs l) (hc : GC w W M R c x) : GL w W M R (cs ++ [c]) (l ++ [x]) := by
  refine ⟨by simp [h.1], fun i c' x' h1 h2 => ?_⟩
  by_cases hi : i < cs.length
  · rw [List.getElem?_append_left hi] at h1
    rw [List.getElem?_append_left (by rw [h.1]; exact hi)] at h2
    exact h.2 i c' x' h1 h2
  · have hi2 : i = cs.length := by
      have := (List.getElem?_eq_some_iff.1 h1).1
      simp at this
      omega
    subst hi2
    rw [List.getElem?_append_right (Nat.le_refl _), Nat.sub_self] at h1
    rw [List.getElem?_append_right (by rw [h.1]; exact Nat.le_refl _), h.1, Nat.sub_self] at h2
    cases h1
    cases h2
    exact hc
theorem gl_size {w W : World} {M : Nat} {R : Option Nat} {cs : List CoD} {l : List (Array Value)} (h : GL w W M R cs l) : ∀ x ∈ l, x.toList.length = 8 := by
  intro x hx
  obtain ⟨i, hi, rfl⟩ := List.mem_iff_getElem.1 hx
  obtain ⟨va, vc, fa, fc, ia, ic, e, -⟩ := (h.2 i _ _ (List.getElem?_eq_getElem (by rw [← h.1]; exact hi)) (List.getElem?_eq_getElem hi)).out
  rw [e]
  rfl
theorem flat_get' {k : Nat} : ∀ {l : List (Array Value)}, (∀ x ∈ l, x.toList.length = k) → ∀ {i : Nat} {x : Array Value} {j : Nat} {u : Value}, l[i]? = some x → x[j]? = some u → (l.flatMap (·.toList))[i * k + j]? = some u
  | [], _, _, _, _, _, h, _ => by simp at h
  | a :: l, hk, 0, x, j, u, h, hu => by
    simp at h
    subst h
    have hj := (Array.getElem?_eq_some_iff.1 hu).1
    rw [List.flatMap_cons, Nat.zero_mul, Nat.zero_add, List.getElem?_append_left (by simpa using hj)]
    simpa using hu
  | a :: l, hk, i + 1, x, j, u, h, hu => by
    have ha := hk a (by simp)
    rw [List.flatMap_cons, List.getElem?_append_right (by rw [ha, Nat.add_mul]; omega), ha, show (i + 1) * k + j - k = i * k + j by rw [Nat.add_mul]; omega]
    exact flat_get' (fun x hx => hk x (by simp [hx])) (by simpa using h) hu
/-- The functions that were put, as a slice. -/
theorem funcs_owns {w W : World} {base n M : Nat} {v : Value} {R : Option Nat} {cs : List CoD} {l : List (Array Value)} (h : W.ownsRow base 37 8 v n (l.flatMap (·.toList))) (hn : n = cs.length) (hl : cs.length ≤ 9223372036854775807) (hg : GL w W M R cs l) (hb : Below w.heap.size w W) : ∃ A c, v = .slice A (growL cs).length c ∧ RowM 8 CoAt W A (growL cs) := by
  have hgl : (growL cs).length = cs.length := by rw [growL, List.length_map]
  rw [hgl]
  by_cases h0 : cs = []
  · subst h0
    rcases h.2 with ⟨rfl, -⟩ | ⟨g, cap, cur, rfl, -⟩
    · exact ⟨none, 0, rfl, by simp, fun i x hx => by simp [growL] at hx⟩
    · subst hn
      exact ⟨_, _, rfl, by simp, fun i x hx => by simp [growL] at hx⟩
  · obtain ⟨g, cap, rfl, hgs, -, hc⟩ := row_cells h (by rw [hn]; exact fun q => h0 (List.length_eq_zero_iff.1 q))
    subst hn
    refine ⟨_, _, rfl, by rw [hgl]; exact hl, fun i x hx => ?_⟩
    rw [growL, List.getElem?_map] at hx
    obtain ⟨c, hcx, rfl⟩ := Option.map_eq_some_iff.1 hx
    have hi := (List.getElem?_eq_some_iff.1 hcx).1
    obtain ⟨y, hy⟩ : ∃ y, l[i]? = some y := ⟨_, List.getElem?_eq_getElem (by rw [hg.1]; exact hi)⟩
    obtain ⟨va, vc, fa, fc, ia, ic, rfl, h1, -, h3, h4⟩ := (hg.2 i c y hcx hy).out
    refine ⟨g, 0, rfl, hgs, va, vc, fa, fc, ia, ic, fun j u hu => ?_, h1, h3.later int_stays hb, h4.later in_stays hb⟩
    rw [Nat.zero_add]
    exact hc _ _ (flat_get' (gl_size hg) hy hu)
theorem row_at {W W' : World} {base n e size : Nat} {v : Value} {xs : List Value} (h : W.ownsRow base e size v n xs) (hb : ∀ g, v.ownBlock = some g → W'.heap[g]? = W.heap[g]?) : W'.ownsRow base e size v n xs := by
  refine ⟨h.1, ?_⟩
  rcases h.2 with h0 | ⟨g, cap, cur, hv, hbg, hg, rest⟩
  · exact .inl h0
  · exact .inr ⟨g, cap, cur, hv, hbg, (hb g (by rw [hv]; rfl)).trans hg, rest⟩
theorem row_lt {W : World} {base n e size : Nat} {v : Value} {xs : List Value} (h : W.ownsRow base e size v n xs) {g : Nat} (hg : v.ownBlock = some g) : base ≤ g ∧ g < W.heap.size := by
  rcases h.2 with ⟨rfl, -⟩ | ⟨g', cap, cur, rfl, hbg, hgs, rest⟩
  · cases hg
  · cases hg
    exact ⟨hbg, (Array.getElem?_eq_some_iff.1 hgs).1⟩
/-- What stands while functions with one variable more are put. -/
structure GS (w : World) (ss : List StD) (cs : List CoD) (sa ca : Option Addr) (sc cc M k : Nat) (v : Value) (l : List (Array Value)) (W : World) : Prop where
  below : Below w.heap.size w W
  low : w.heap.size < M
  t1 : W.heap[w.heap.size]? = some (.cells #[.slice sa ss.length sc, .slice ca cs.length cc] 25 (0, 0))
  n1 : W.heap[M]? = some (.cells #[.slice sa ss.length sc, v] 25 (0, 0))
  row : W.ownsRow (M + 1) 37 8 v k (l.flatMap (·.toList))
  gl : GL w W M v.ownBlock (cs.take k) l
  few : ∀ c ∈ cs.take k, c.vs.length < 300
theorem GS.later {w : World} {ss : List StD} {cs : List CoD} {sa ca : Option Addr} {sc cc M k : Nat} {v : Value} {l : List (Array Value)} {W W' : World} (h : GS w ss cs sa ca sc cc M k v l W) (hb : Below W.heap.size W W') : GS w ss cs sa ca sc cc M k v l W' :=
  ⟨after h.below hb h.below.size, h.low, lay hb h.t1, lay hb h.n1, row_at h.row (fun g hg => hb.block g (row_lt h.row hg).2), h.gl.step hb.size (fun b _ hlt _ => hb.block b hlt) (.inl rfl), h.few⟩
/-- One function more. -/
theorem GS.push {w : World} {ss : List StD} {cs : List CoD} {sa ca : Option Addr} {sc cc M k : Nat} {v v' : Value} {l : List (Array Value)} {W W' : World} {o : Obj} {c : CoD} {va fa ia : Option Addr} {vc fc ic : Nat}
    (h : GS w ss cs sa ca sc cc M k v l W) (hc : cs[k]? = some c) (hf : c.vs.length < 300) (hrow : W'.ownsRow (M + 1) 37 8 v' (k + 1) (l.flatMap (·.toList) ++ (CoV (growC c) va vc fa fc ia ic).toList)) (hg : (W.alloc o).grownBy W' v.ownBlock) (hblk : v'.ownBlock = v.ownBlock ∨ v'.ownBlock = some (W.alloc o).heap.size)
    (hvs : RowM 3 VaAt W va (growC c).vs) (hva : ∀ a, va = some a → (M < a.block ∧ a.block < W.heap.size) ∧ some a.block ≠ v.ownBlock) (hfr : IntsM w fa c.fr) (hin : RowM 13 InAt w ia c.ins) :
    GS w ss cs sa ca sc cc M (k + 1) v' (l ++ [CoV (growC c) va vc fa fc ia ic]) (W'.setCell ⟨M, 1, none⟩ v') := by
  have hMs := (Array.getElem?_eq_some_iff.1 h.n1).1
  have hlo := h.low
  have hsz : (W.alloc o).heap.size = W.heap.size + 1 := by simp
  have hgs := hg.size
  have hold : ∀ b, b < W.heap.size → some b ≠ v.ownBlock → W'.heap[b]? = W.heap[b]? := fun b hlt hne => (hg.block b (by omega) hne).trans (Below.heap_alloc W o b hlt)
  have hnr : ∀ b, b ≤ M → some b ≠ v.ownBlock := fun b hb e => by have := (row_lt h.row e.symm).1; omega
  have hset : ∀ b, b ≠ M → (W'.setCell ⟨M, 1, none⟩ v').heap[b]? = W'.heap[b]? := fun b hb => Below.heap_setCell _ _ _ _ hb
  have hss : (W'.setCell ⟨M, 1, none⟩ v').heap.size = W'.heap.size := by simp [World.setCell]
  have hn1 := (hold M hMs (hnr M (Nat.le_refl _))).trans h.n1
  have hR : v'.ownBlock = v.ownBlock ∨ ∀ b, b < W.heap.size → some b ≠ v'.ownBlock := by
    rcases hblk with e | e
    · exact .inl e
    · exact .inr fun b hb q => by rw [e] at q; cases q; omega
  have htake : cs.take (k + 1) = cs.take k ++ [c] := take_snoc hc
  have hgc : GC w W M v.ownBlock c (CoV (growC c) va vc fa fc ia ic) := ⟨va, vc, fa, fc, ia, ic, rfl, hvs, hva, hfr, hin⟩
  have hgl : GL w W M v.ownBlock (cs.take (k + 1)) (l ++ [CoV (growC c) va vc fa fc ia ic]) := by rw [htake]; exact h.gl.push hgc
  refine ⟨?_, hlo, ?_, ?_, ?_, ?_, ?_⟩
  · refine ((after h.below (below1 W o) h.below.size).grown hg (by have := h.below.size; omega) (fun b e => by have := (row_lt h.row e).1; omega)).setCell (by show w.heap.size ≤ M; omega) _
  · rw [hset _ (by omega), hold _ (by omega) (hnr _ (by omega))]
    exact h.t1
  · have := set_here hn1 1 v'
    exact this
  · have e : (l ++ [CoV (growC c) va vc fa fc ia ic]).flatMap (·.toList) = l.flatMap (·.toList) ++ (CoV (growC c) va vc fa fc ia ic).toList := by simp
    rw [e]
    exact row_at hrow (fun g hg' => hset g (by have := (row_lt hrow hg').1; omega))
  · exact hgl.step (by omega) (fun b hM hlt hne => by rw [hset b (by omega)]; exact hold b hlt hne) hR
  · intro c' hc'
    rw [htake] at hc'
    rcases List.mem_append.1 hc' with h' | h'
    · exact h.few c' h'
    · rw [List.mem_singleton] at h'
      rw [h']; exact hf
theorem right_sizes {ss : List StD} {cs : List CoD} (h : rightF ss cs = 0) : cs.length ≤ 60 ∧ dup (keysOf (cs.map (·.nm))) = false ∧ ∀ c ∈ cs, c.vs.length ≤ 300 := by
  rw [rightF] at h
  by_cases h1 : 30 < ss.length ∨ 60 < cs.length
  · rw [if_pos h1] at h; cases h
  rw [if_neg h1] at h
  cases h2 : twB ss cs
  case true => rw [h2] at h; cases h
  cases h3 : unB ss cs
  case true => rw [h2, h3] at h; cases h
  rw [h2, h3] at h
  have h' : (if firstC ss cs cs = 0 then mainF cs else firstC ss cs cs) = 0 := h
  rw [twB, Bool.or_eq_false_iff] at h2
  refine ⟨by omega, h2.2, fun c hc => ?_⟩
  by_cases h4 : firstC ss cs cs = 0
  · have hz := firstC_zero h4 c hc
    rw [codF] at hz
    by_cases h5 : 300 < c.vs.length ∨ c.ins.length = 0 ∨ 3000 < c.ins.length
    · rw [if_pos h5] at hz; cases hz
    · omega
  · rw [if_neg h4] at h'
    exact absurd h' h4
theorem ok_grow {ss : List StD} {cs : List CoD} (h : OkM ss cs) : OkM ss (growL cs) := by
  refine ⟨h.1, fun c' hc' => ?_⟩
  obtain ⟨c, hc, rfl⟩ := List.mem_map.1 hc'
  obtain ⟨a, b, d⟩ := h.2 c hc
  refine ⟨a, b, fun v hv => ?_⟩
  rw [grow_vs] at hv
  rcases List.mem_append.1 hv with hv | hv
  · exact d v hv
  · rw [List.mem_singleton] at hv
    rw [hv]
    decide
end Go.Proofs.Ytfhdiahjfnphkaa
