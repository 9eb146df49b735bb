/- A field that an instruction names. No conditions. -/
import Derived.Test.YtfhdiahjfnphkaaCR16
import Derived.Test.YtfhdiahjfnphkaaCR13
import Derived.Maps.AppendAt
import Derived.Lib.SliceRun
namespace Go.Proofs.Ytfhdiahjfnphkaa
open Go.RowKit Go.Maps
set_option linter.unusedVariables false
set_option linter.unusedSimpArgs false
theorem at_mapN (l : List ByteArray) (s : ByteArray) (z : DataW Unit) : ∀ k j : Nat, k ≤ l.length → j < k → l[j]? = some s → dup ((keysOf l).take k) = false → (mapN l k).atKey (.string s.data.toList) z = .lit (.int .i64 j)
  | 0, j, _, hj, _, _ => by omega
  | k + 1, j, hk, hj, hs, hd => by
    obtain ⟨u, hu⟩ := get_some (l := l) (i := k) rfl (by omega)
    have hm : (keysOf l)[k]? = some u.data.toList := by rw [List.getElem?_map, hu]; rfl
    rw [List.take_add_one, hm] at hd
    have hd' : dup ((keysOf l).take k ++ [u.data.toList]) = false := hd
    rw [dup_snoc, Bool.or_eq_false_iff] at hd'
    rw [mapN_succ hu]
    by_cases e : j = k
    · subst e
      rw [hs] at hu
      cases hu
      rw [atKey_put_same (mapN_tidy l j).isMap (isKey _)]
    · have hne : s.data.toList ≠ u.data.toList := fun h => by
        have h1 : ((keysOf l).take k).contains u.data.toList = true := by
          rw [List.contains_iff_mem, ← h]
          exact List.mem_of_getElem? (i := j) (by rw [List.getElem?_take_of_lt (by omega), List.getElem?_map, hs]; rfl)
        rw [hd'.2] at h1
        cases h1
      rw [atKey_put_other (by intro q; injection q with q; exact hne q)]
      exact at_mapN l s z k j (by omega) (by omega) hs hd'.1
theorem look_name {W : World} {B n : Nat} (l : List ByteArray) (s : ByteArray) (j : Nat) (h : W.ownsMap Try.prog 9 (plainElem (H := Unit) Try.prog 3) B n (mapN l l.length)) (nd : dup (keysOf l) = false) (hs : l[j]? = some s) (hz : s.size ≤ maxLen) :
    (Instr.lookup 68 (.map (some B)) (.string s) false).run Try.prog W = .ok (.int .i64 j) W := by
  obtain ⟨c, hrun, hat, hwc⟩ := h.lookup_int (string_keyed Try.underlying9) Try.underlying68 (Try.underlying3) (Try.zeroValue3 W) (WideMaps.keyOf_string_mk Try.underlying9 hz)
  rw [hrun]
  have e := at_mapN l s (.lit (.int .i64 0)) l.length j (Nat.le_refl _) (List.getElem?_eq_some_iff.1 hs).1 hs (by rw [List.take_of_length_le (by simp)]; exact nd)
  have e2 : DataW.lit (.int .i64 j) = (DataW.lit (.int .i64 c) : DataW Unit) := e.symm.trans hat
  cases e2
  rfl
def fieldsAt (ss : List StD) (nm : ByteArray) : List FdD := match ss[(idxL (stN nm) ss 0).toNat]? with | some s => s.fs | none => []
def fieldF (ss : List StD) (x : CoD) (r : InD) (v : Int) : TyD × Int :=
  if inN x.vs.length r.a && inN x.vs.length v then
    (if (tyOf x r.a).p then
      (if 0 ≤ r.f then (match (fieldsAt ss (tyOf x r.a).name)[r.f.toNat]? with | some u => (u.t, 0) | none => (⟨false, ⟨#[]⟩⟩, 15)) else (⟨false, ⟨#[]⟩⟩, 15))
    else (⟨false, ⟨#[]⟩⟩, 7))
  else (⟨false, ⟨#[]⟩⟩, 15)
theorem below3a (w : World) (o p q : Obj) : Below w.heap.size w (((w.alloc o).alloc p).alloc q) := (below2 w o p).alloc (by simp; omega) _
theorem box3a (w : World) (vs : Array Value) (t : TypeId) (o p : Obj) : (((w.alloc (.cells vs t)).alloc o).alloc p).heap[w.heap.size]? = some (.cells vs t (0, 0)) :=
  (Below.heap_alloc _ _ _ (by simp; omega)).trans (boxA w vs t o)
theorem box3b (w : World) (vs : Array Value) (t : TypeId) (o p : Obj) : (((w.alloc o).alloc (.cells vs t)).alloc p).heap[w.heap.size + 1]? = some (.cells vs t (0, 0)) := by
  refine (Below.heap_alloc _ _ _ (by simp)).trans ?_
  have := heap_alloc_new (w.alloc o) (.cells vs t)
  rwa [World.size_alloc] at this
set_option maxRecDepth 100000 in
set_option maxHeartbeats 4000000 in
theorem field_out (p : JP) (J : Nat) (r : InD) (v : Int) (ao mo : Option Addr) (ac mc : Nat) (w : World) (hj : JG w J p) (e : (inN p.x.vs.length r.a && inN p.x.vs.length v) = false) :
    Calls Try.prog 83 #[.pointer (some ⟨J, 0, none⟩), .agg (InV r ao ac mo mc), .int .i64 v] w fun e w' => e = .returned (.tuple #[.agg #[.bool false, .string ⟨#[]⟩], .int .i64 15]) ∧ Hid (Below w.heap.size w w') := by
  obtain ⟨op, d, a, b, tt, el, f, n, l, c, sg, xs, ms⟩ := r
  have HJ := hid (fun W (hb : Below w.heap.size w W) => hj.later hb)
  have HB := hid (below3a w)
  clear hj
  go_enter Try.func83, Try.ntmps83
  go_wp2_with (first
    | (go_at_call 74; refine (there_2 p a v _ _ _ _ (new_cell3a _ _ _ _ _ _) (new_cell3b _ _ _ _ _ _) (HJ.out _ (HB.out _ _ _)) e).mono ?_; rintro e w' ⟨rfl, rfl⟩))
  exact bodyPost_ret (v := .tuple #[.agg #[.bool false, .string ⟨#[]⟩], .int .i64 15]) (by simp [results, Try.results83, go_sem]) rfl ⟨rfl, hid (HB.out _ _ _)⟩
end Go.Proofs.Ytfhdiahjfnphkaa
/- What an instruction reads, by the reference, but for calls. No conditions. -/
namespace Go.Proofs.Ytfhdiahjfnphkaa
open Go.RowKit Go.Maps
set_option linter.unusedVariables false
set_option linter.unusedSimpArgs false
def rdL : List Int := [3, 4, 6, 7, 8, 9, 10, 11, 13, 14, 17, 18]
def rd2L : List Int := [4, 8, 11]
def rd1 (op : Int) : Bool := rdL.any (fun x => x == op)
def rd2 (op : Int) : Bool := rd2L.any (fun x => x == op)
/-- What an instruction reads. -/
def rdsF (r : InD) : List Int := if r.op = 15 then r.xs else (if rd1 r.op then [r.a] else []) ++ (if rd2 r.op then [r.b] else [])
theorem in_l (L : List Int) (n : Nat) (hn : L.length = n) (q : Int) (b c : Nat) (r : Bool) (w : World) (cs : Array Value) (hc : cs.toList = L.map (Value.int .i64)) (hl : L.length ≤ 9223372036854775807) (hb : w.heap.size = b) (hr : L.any (fun x => x == q) = r) :
    Calls Try.prog 72 #[.int .i64 q, .slice (some ⟨b, 0, none⟩) n c] (w.alloc (.cells cs 3)) fun e w' => e = .returned (.bool r) ∧ w' = w.alloc (.cells cs 3) := by
  subst hn
  exact in_g L q _ c r _ (ints_new w L cs b hb hc hl) hr
theorem in_rd (q : Int) (b : Nat) (r : Bool) (w : World) (hb : w.heap.size = b) (hr : rd1 q = r) :
    Calls Try.prog 72 #[.int .i64 q, .slice (some ⟨b, 0, none⟩) 12 12] (w.alloc (.cells #[.int .i64 3, .int .i64 4, .int .i64 6, .int .i64 7, .int .i64 8, .int .i64 9, .int .i64 10, .int .i64 11, .int .i64 13, .int .i64 14, .int .i64 17, .int .i64 18] 3)) fun e w' => e = .returned (.bool r) ∧ w' = w.alloc (.cells #[.int .i64 3, .int .i64 4, .int .i64 6, .int .i64 7, .int .i64 8, .int .i64 9, .int .i64 10, .int .i64 11, .int .i64 13, .int .i64 14, .int .i64 17, .int .i64 18] 3) := in_l rdL 12 rfl q b 12 r w _ rfl (by decide) hb hr
theorem in_rd2 (q : Int) (b : Nat) (r : Bool) (w : World) (hb : w.heap.size = b) (hr : rd2 q = r) :
    Calls Try.prog 72 #[.int .i64 q, .slice (some ⟨b, 0, none⟩) 3 3] (w.alloc (.cells #[.int .i64 4, .int .i64 8, .int .i64 11] 3)) fun e w' => e = .returned (.bool r) ∧ w' = w.alloc (.cells #[.int .i64 4, .int .i64 8, .int .i64 11] 3) := in_l rd2L 3 rfl q b 3 r w _ rfl (by decide) hb hr
set_option maxHeartbeats 2000000 in
theorem reads_none (r : InD) (ao mo : Option Addr) (ac mc : Nat) (w : World) (h1 : rd1 r.op = false) (h2 : rd2 r.op = false) (h3 : ¬ r.op = 15) :
    Calls Try.prog 54 #[.agg (InV r ao ac mo mc)] w fun e w' => e = .returned (.slice none 0 0) ∧ Hid (Below w.heap.size w w') := by
  obtain ⟨op, d, a, b, tt, el, f, n, l, c, sg, xs, ms⟩ := r
  have HB := hid (below3a w)
  have H1 := hid h1
  have H2 := hid h2
  simp only at h3
  clear h1 h2
  go_enter Try.func54, Try.ntmps54
  go_wp2_with (first
    | (go_at_call 72; have hh := H1; clear H1; refine (in_rd op _ _ _ (by simp) hh.out).mono ?_; rintro e w' ⟨rfl, rfl⟩)
    | (go_at_call 72; have hh := H2; clear H2; refine (in_rd2 op _ _ _ (by simp) hh.out).mono ?_; rintro e w' ⟨rfl, rfl⟩))
  go_ret
  exact ⟨rfl, hid (HB.out _ _ _)⟩
end Go.Proofs.Ytfhdiahjfnphkaa
/- What an instruction reads, by the reference: one, or two. No conditions. -/
namespace Go.Proofs.Ytfhdiahjfnphkaa
open Go.RowKit Go.Maps
set_option linter.unusedVariables false
set_option linter.unusedSimpArgs false
theorem info3 : (Try.prog.info? 3).map (fun i => (i.zero, i.size, i.bytes)) = some (some (.int .i64 0), 1, 8) := by kernel_rfl
/-- A slice of these numbers. -/
def IsInts (W : World) (v : Value) (xs : List Int) : Prop := ∃ A c, v = .slice A xs.length c ∧ IntsM W A xs
theorem IsInts.later {W W' : World} {v : Value} {xs : List Int} (h : IsInts W v xs) (hb : Below W.heap.size W W') : IsInts W' v xs := by
  obtain ⟨A, c, e, h⟩ := h
  exact ⟨A, c, e, h.later int_stays hb⟩
theorem row_cell {W : World} {base : Nat} {n : Nat} {v : Value} {xs : List Value} (h : W.ownsRow base 3 1 v n xs) (hn : n ≠ 0) :
    ∃ g cap, v = .slice (some ⟨g, 0, none⟩) n cap ∧ g < W.heap.size ∧ base ≤ g ∧ ∀ j u, xs[j]? = some u → W.cell? ⟨g, j, none⟩ = some u := by
  rcases h.2 with ⟨-, e⟩ | ⟨g, cap, cur, hv, hb, hg, hc, hm, -⟩
  · exact absurd e hn
  · refine ⟨g, cap, hv, (Array.getElem?_eq_some_iff.1 hg).1, hb, fun j u hu => ?_⟩
    have := h.cells (g := g) (by rw [hv]; rfl) j u hu
    unfold Addr.add at this
    split at this
    · rename_i hj; subst hj; exact this
    · simpa using this
theorem ints_owns {W : World} {base n : Nat} {v : Value} {xs : List Int} (h : W.ownsRow base 3 1 v n (xs.map (Value.int .i64))) (hl : xs.length ≤ 9223372036854775807) : IsInts W v xs := by
  have hn : n = xs.length := by have := h.1; simp at this; omega
  subst hn
  by_cases h0 : xs = []
  · subst h0
    rcases h.2 with ⟨rfl, -⟩ | ⟨g, cap, cur, rfl, -⟩
    · exact ⟨_, _, rfl, by simp, fun i x hx => by simp at hx⟩
    · exact ⟨_, _, rfl, by simp, fun i x hx => by simp at hx⟩
  · obtain ⟨g, cap, rfl, hg, -, hc⟩ := row_cell h (fun q => h0 (List.length_eq_zero_iff.1 q))
    exact ⟨_, _, rfl, hl, fun j x hj => ⟨g, 0, rfl, hg, by
      show W.cell? ⟨g, 0 + j * 1, none⟩ = _
      rw [show 0 + j * 1 = j by omega]
      exact hc j _ (by rw [List.getElem?_map, hj]; rfl)⟩⟩
theorem one_at (W : World) (v : Value) (k : Nat) (hk : W.heap.size = k) : ∀ j u, [v][j]? = some u → (W.alloc (.cells #[v] 3)).cell? ((⟨k, 0, none⟩ : Addr).add j) = some u := by
  subst hk
  intro j u hj
  cases j with
  | zero => simp at hj; subst hj; exact cells_at (heap_alloc_new W _) 0
  | succ j => simp at hj
theorem keep_box {W w1 : World} {row : Option Nat} {n : Nat} {o : Obj} (h : W.heap[n]? = some o) (hg : W.grownBy w1 row) (hr : ∀ k, row = some k → n + 1 ≤ k) : w1.heap[n]? = some o :=
  (hg.block n (Array.getElem?_eq_some_iff.1 h).1 (by intro q; have := hr n q.symm; omega)).trans h
set_option maxRecDepth 100000 in
set_option maxHeartbeats 4000000 in
theorem reads_one (r : InD) (ao mo : Option Addr) (ac mc : Nat) (w : World) (h1 : rd1 r.op = true) (h2 : rd2 r.op = false) (h3 : ¬ r.op = 15) :
    Calls Try.prog 54 #[.agg (InV r ao ac mo mc)] w fun e w' => ∃ v, e = .returned v ∧ Hid (IsInts w' v [r.a]) ∧ Hid (Below w.heap.size w w') := by
  obtain ⟨op, d, a, b, tt, el, f, n, l, c, sg, xs, ms⟩ := r
  have HB2 := hid (below2 w)
  have H1 := hid h1
  have H2 := hid h2
  simp only at h3
  clear h1 h2
  obtain ⟨i0t, hti, hz0, hz1, hz2⟩ := info_parts info3
  have G1 : True := trivial
  have G2 : True := trivial
  go_enter Try.func54, Try.ntmps54
  go_wp2_with (first
    | (go_at_call 72; have hh := H1; clear H1; refine (in_rd op _ _ _ (by simp) hh.out).mono ?_; rintro e w' ⟨rfl, rfl⟩)
    | (at_builtin; have hh := G1; clear G1; go_must (refine wpList_append_own_at _ rfl _ _ 34 rfl (w.heap.size + 1) 3 i0t (.int .i64 0) 1 8 Try.underlying34 hti hz0 hz1 hz2 rfl (by decide) _ 0 [] rfl (World.ownsRow_nil _ _ _ _) _ 1 1 [.int .i64 a] rfl rfl (one_at _ _ _ (by simp)) (by intro u hu; simp at hu; subst hu; rfl) (by unfold maxLen; omega) (by omega) (by simp) ?_); intro v' w1 hown hgrow hnil hblk
       have HO1 := hid hown
       have HX1 := hid (keep_box (old_block (below1 _ _) (by simp <;> omega) (old_block (below1 _ _) (by simp <;> omega) (heap_alloc_new w _))) hgrow (by rintro k e; cases e))
       have HB1 := hid ((HB2.out _ _).alloc (by simp <;> omega) (.cells #[.int .i64 a] 3) |>.grown hgrow (by simp <;> omega) (by rintro k e; cases e))
       have hx1 := cells_at HX1.out
       have hx1b := fun o => cells_at1 HX1.out o
       clear hown hgrow hnil hblk)
    | (go_at_call 72; have hh := H2; clear H2; refine (in_rd2 op _ _ _ (by simp) hh.out).mono ?_; rintro e w' ⟨rfl, rfl⟩))
  go_ret
  exact ⟨_, rfl, hid (ints_owns (xs := [a]) (HO1.out.alloc _) (by simp)), hid (after HB1.out (below1 _ _) HB1.out.size)⟩
set_option maxRecDepth 100000 in
set_option maxHeartbeats 4000000 in
theorem reads_two (r : InD) (ao mo : Option Addr) (ac mc : Nat) (w : World) (h1 : rd1 r.op = true) (h2 : rd2 r.op = true) (h3 : ¬ r.op = 15) :
    Calls Try.prog 54 #[.agg (InV r ao ac mo mc)] w fun e w' => ∃ v, e = .returned v ∧ Hid (IsInts w' v [r.a, r.b]) ∧ Hid (Below w.heap.size w w') := by
  obtain ⟨op, d, a, b, tt, el, f, n, l, c, sg, xs, ms⟩ := r
  have HB2 := hid (below2 w)
  have H1 := hid h1
  have H2 := hid h2
  simp only at h3
  clear h1 h2
  obtain ⟨i0t, hti, hz0, hz1, hz2⟩ := info_parts info3
  have G1 : True := trivial
  have G2 : True := trivial
  go_enter Try.func54, Try.ntmps54
  go_wp2_with (first
    | (go_at_call 72; have hh := H1; clear H1; refine (in_rd op _ _ _ (by simp) hh.out).mono ?_; rintro e w' ⟨rfl, rfl⟩)
    | (at_builtin; have hh := G1; clear G1; go_must (refine wpList_append_own_at _ rfl _ _ 34 rfl (w.heap.size + 1) 3 i0t (.int .i64 0) 1 8 Try.underlying34 hti hz0 hz1 hz2 rfl (by decide) _ 0 [] rfl (World.ownsRow_nil _ _ _ _) _ 1 1 [.int .i64 a] rfl rfl (one_at _ _ _ (by simp)) (by intro u hu; simp at hu; subst hu; rfl) (by unfold maxLen; omega) (by omega) (by simp) ?_); intro v' w1 hown hgrow hnil hblk
       have HO1 := hid hown
       have HX1 := hid (keep_box (old_block (below1 _ _) (by simp <;> omega) (old_block (below1 _ _) (by simp <;> omega) (heap_alloc_new w _))) hgrow (by rintro k e; cases e))
       have HB1 := hid ((HB2.out _ _).alloc (by simp <;> omega) (.cells #[.int .i64 a] 3) |>.grown hgrow (by simp <;> omega) (by rintro k e; cases e))
       have hx1 := cells_at HX1.out
       have hx1b := fun o => cells_at1 HX1.out o
       clear hown hgrow hnil hblk)
    | (go_at_call 72; have hh := H2; clear H2; refine (in_rd2 op _ _ _ (by simp) hh.out).mono ?_; rintro e w' ⟨rfl, rfl⟩)
    | (at_builtin; have hh := G2; clear G2; go_must (refine wpList_append_own_at _ rfl _ _ 34 rfl (w.heap.size + 1) 3 i0t (.int .i64 0) 1 8 Try.underlying34 hti hz0 hz1 hz2 rfl (by decide) v' _ _ rfl ((HO1.out.alloc _).alloc _) _ 1 1 [.int .i64 b] rfl rfl (one_at _ _ _ (by simp)) (by intro u hu; simp at hu; subst hu; rfl) (by unfold maxLen; omega) (by omega) (by have := HB1.out.size; have := (Array.getElem?_eq_some_iff.1 HX1.out).1; simp <;> omega) ?_); intro v2 w2 hown2 hgrow2 hnil2 hblk2
       have HO2 := hid hown2
       have hlow := fun k (q : v'.ownBlock = some k) => (HO1.out.lt k q).1
       have HX2 := hid (keep_box (old_block (below1 _ _) (by have := (Array.getElem?_eq_some_iff.1 HX1.out).1; simp <;> omega) (old_block (below1 _ _) (Array.getElem?_eq_some_iff.1 HX1.out).1 HX1.out)) hgrow2 hlow)
       have HB3 := hid ((after HB1.out (below2 _ _ _) HB1.out.size).grown hgrow2 (by have := HB1.out.size; simp <;> omega) (fun k q => by have := hlow k q; omega))
       have hx2 := cells_at HX2.out
       clear hown2 hgrow2 hnil2 hblk2 hlow))
  go_ret
  exact ⟨_, rfl, hid (ints_owns (xs := [a, b]) HO2.out (by simp)), HB3⟩
end Go.Proofs.Ytfhdiahjfnphkaa
/- What an instruction reads, by the reference, whatever it is. Condition: at most 40 arguments. -/
namespace Go.Proofs.Ytfhdiahjfnphkaa
open Go.RowKit Go.Maps
set_option linter.unusedVariables false
set_option linter.unusedSimpArgs false
theorem ints_nil (W : World) : IsInts W (.slice none 0 0) [] := ⟨none, 0, rfl, by simp, fun i x hx => by simp at hx⟩
theorem news_of {W : World} {A : Option Addr} {xs : List Int} (h : IntsM W A xs) (hx : xs ≠ []) : ∃ b o, A = some ⟨b, o, none⟩ ∧ ∀ j u, (xs.map (Value.int .i64))[j]? = some u → W.cell? ((⟨b, o, none⟩ : Addr).add j) = some u := by
  obtain ⟨x, hx0⟩ : ∃ x, xs[0]? = some x := by cases xs with | nil => exact absurd rfl hx | cons x l => exact ⟨x, rfl⟩
  obtain ⟨b, o, e, -, -⟩ := h.2 0 x hx0
  refine ⟨b, o, e, fun j u hu => ?_⟩
  rw [List.getElem?_map] at hu
  obtain ⟨y, hy, rfl⟩ := Option.map_eq_some_iff.1 hu
  obtain ⟨b', o', e', -, hc⟩ := h.2 j y hy
  rw [e] at e'
  cases e'
  have : W.cell? ⟨b, o + j * 1, none⟩ = some (.int .i64 y) := hc
  unfold Addr.add
  split
  · rename_i hj; subst hj; simpa using this
  · simpa using this
theorem news_later {W W' : World} {b o : Nat} {xs : List Int} (h : IntsM W (some ⟨b, o, none⟩) xs) (hx : xs ≠ []) (hb : Below W.heap.size W W') : ∀ j u, (xs.map (Value.int .i64))[j]? = some u → W'.cell? ((⟨b, o, none⟩ : Addr).add j) = some u := by
  obtain ⟨b', o', e, hn⟩ := news_of (h.later int_stays hb) hx
  cases e
  exact hn
theorem ints_one' (xs : List Int) : ∀ u ∈ xs.map (Value.int .i64), u.oneCell' = true := by
  intro u hu
  obtain ⟨x, -, rfl⟩ := List.mem_map.1 hu
  rfl
set_option maxRecDepth 100000 in
set_option maxHeartbeats 4000000 in
theorem reads_call (r : InD) (ao mo : Option Addr) (ac mc : Nat) (w : World) (h3 : r.op = 15) (hx : IntsM w ao r.xs) (hl : r.xs.length ≤ 40) :
    Calls Try.prog 54 #[.agg (InV r ao ac mo mc)] w fun e w' => ∃ v, e = .returned v ∧ Hid (IsInts w' v r.xs) ∧ Hid (Below w.heap.size w w') := by
  obtain ⟨op, d, a, b, tt, el, f, n, l, c, sg, xs, ms⟩ := r
  simp only at h3 hl hx
  subst h3
  have HB := hid (below3a w)
  have H1 := hid (show rd1 15 = false by decide)
  have H2 := hid (show rd2 15 = false by decide)
  by_cases h0 : xs = []
  · subst h0
    clear hx hl
    rcases ao with - | ad
    · go_enter Try.func54, Try.ntmps54
      go_wp2_with (first
        | (go_at_call 72; have hh := H1; clear H1; refine (in_rd 15 _ _ _ (by simp) hh.out).mono ?_; rintro e w' ⟨rfl, rfl⟩)
        | (go_at_call 72; have hh := H2; clear H2; refine (in_rd2 15 _ _ _ (by simp) hh.out).mono ?_; rintro e w' ⟨rfl, rfl⟩))
      go_ret
      exact ⟨_, rfl, hid (ints_nil _), HB.out _ _ _⟩
    · obtain ⟨i0t, hti, hz0, hz1, hz2⟩ := info_parts info3
      go_enter Try.func54, Try.ntmps54
      go_wp2_with (first
        | (go_at_call 72; have hh := H1; clear H1; refine (in_rd 15 _ _ _ (by simp) hh.out).mono ?_; rintro e w' ⟨rfl, rfl⟩)
        | (go_at_call 72; have hh := H2; clear H2; refine (in_rd2 15 _ _ _ (by simp) hh.out).mono ?_; rintro e w' ⟨rfl, rfl⟩)
        | (at_builtin; go_must (refine wpList_append_own_at _ rfl _ _ 34 rfl w.heap.size 3 i0t (.int .i64 0) 1 8 Try.underlying34 hti hz0 hz1 hz2 rfl (by decide) _ 0 [] rfl (World.ownsRow_nil _ _ _ _) ad 0 ac [] rfl rfl (fun j u hu => by simp at hu) (fun u hu => by simp at hu) (by unfold maxLen; omega) (by omega) (by simp <;> omega) ?_); intro v' w1 hown hgrow hnil hblk
           have HO1 := hid hown
           have HG1 := hid hgrow
           clear hown hgrow hnil hblk))
      go_ret
      exact ⟨_, rfl, hid (ints_owns (xs := []) HO1.out (by simp)), hid ((HB.out _ _ _).grown HG1.out (HB.out _ _ _).size (by rintro k e; cases e))⟩
  · obtain ⟨bx, ox, rfl, hn⟩ := news_of hx h0
    obtain ⟨i0t, hti, hz0, hz1, hz2⟩ := info_parts info3
    obtain ⟨m, hm⟩ : ∃ m : Nat, xs.length = m := ⟨_, rfl⟩
    have HN := hid (fun o p q => (news_later hx h0 (HB.out o p q)))
    have HNE := hid h0
    have HL := hid hm
    rw [hm] at hl
    clear hn hx h0
    have hbx : (InV ⟨15, d, a, b, tt, el, f, n, l, c, sg, xs, ms⟩ (some ⟨bx, ox, none⟩) ac mo mc) = (#[.int .i64 15, .int .i64 d, .int .i64 a, .int .i64 b, .int .i64 f, .int .i64 n, .string sg, .slice (some ⟨bx, ox, none⟩) m ac, .slice mo ms.length mc, .int .i64 tt, .int .i64 el, .int .i64 l, .int .i64 c] : Array Value) := by simp [InV, hm]
    rw [hbx]
    clear hbx hm
    go_enter Try.func54, Try.ntmps54
    go_wp2_with (first
      | (go_at_call 72; have hh := H1; clear H1; refine (in_rd 15 _ _ _ (by simp) hh.out).mono ?_; rintro e w' ⟨rfl, rfl⟩)
      | (go_at_call 72; have hh := H2; clear H2; refine (in_rd2 15 _ _ _ (by simp) hh.out).mono ?_; rintro e w' ⟨rfl, rfl⟩)
      | (at_builtin; go_must (refine wpList_append_own_at _ rfl _ _ 34 rfl w.heap.size 3 i0t (.int .i64 0) 1 8 Try.underlying34 hti hz0 hz1 hz2 rfl (by decide) _ 0 [] rfl (World.ownsRow_nil _ _ _ _) ⟨bx, ox, none⟩ m ac (xs.map (Value.int .i64)) rfl (by rw [List.length_map, HL.out, Nat.mul_one]) (HN.out _ _ _) (ints_one' xs) (by unfold maxLen; omega) (by omega) (by simp <;> omega) ?_); intro v' w1 hown hgrow hnil hblk
         have HO1 := hid hown
         have HG1 := hid hgrow
         clear hown hgrow hnil hblk))
    go_ret
    exact ⟨_, rfl, hid (ints_owns (by simpa using HO1.out) (by have := HL.out; omega)), hid ((HB.out _ _ _).grown HG1.out (HB.out _ _ _).size (by rintro k e; cases e))⟩
theorem rd_split (op : Int) (h : ¬ op = 15) : (rd1 op = false ∧ rd2 op = false) ∨ (rd1 op = true ∧ rd2 op = false) ∨ (rd1 op = true ∧ rd2 op = true) := by
  rcases h1 : rd1 op with - | - <;> rcases h2 : rd2 op with - | -
  · exact .inl ⟨rfl, rfl⟩
  · exfalso
    simp only [rd2, rd2L, List.any_cons, List.any_nil, Bool.or_false, Bool.or_eq_true, beq_iff_eq] at h2
    rcases h2 with h | h | h <;> (subst h; exact absurd h1 (by decide))
  · exact .inr (.inl ⟨rfl, rfl⟩)
  · exact .inr (.inr ⟨rfl, rfl⟩)
/-- What an instruction reads. -/
theorem reads_g (r : InD) (ao mo : Option Addr) (ac mc : Nat) (w : World) (hx : IntsM w ao r.xs) (hl : r.xs.length ≤ 40) :
    Calls Try.prog 54 #[.agg (InV r ao ac mo mc)] w fun e w' => ∃ v, e = .returned v ∧ Hid (IsInts w' v (rdsF r)) ∧ Hid (Below w.heap.size w w') := by
  by_cases h : r.op = 15
  · rw [rdsF, if_pos h]
    exact reads_call r ao mo ac mc w h hx hl
  · rw [rdsF, if_neg h]
    rcases rd_split r.op h with ⟨h1, h2⟩ | ⟨h1, h2⟩ | ⟨h1, h2⟩
    · rw [h1, h2]
      refine (reads_none r ao mo ac mc w h1 h2 h).mono fun e w' ⟨he, hb⟩ => ?_
      exact ⟨_, he, hid (ints_nil _), hb⟩
    · rw [h1, h2]
      exact reads_one r ao mo ac mc w h1 h2 h
    · rw [h1, h2]
      exact reads_two r ao mo ac mc w h1 h2 h
/-- Are all of these variables? -/
theorem has_i (x : CoD) (va fa ia : Option Addr) (vc fc ic : Nat) (xs : List Int) (A : Option Addr) (c : Nat) (r : Bool) (w : World) (h1 : Hid (IsInts w (.slice A xs.length c) xs)) (hr : xs.all (inN x.vs.length) = r) :
    Calls Try.prog 53 #[.agg (CoV x va vc fa fc ia ic), .slice A xs.length c] w fun e w' => e = .returned (.bool r) ∧ Hid (Below w.heap.size w w') := by
  obtain ⟨A', c', e, h⟩ := h1.out
  cases e
  exact has_g xs A c x va fa ia vc fc ic r w h hr
end Go.Proofs.Ytfhdiahjfnphkaa
