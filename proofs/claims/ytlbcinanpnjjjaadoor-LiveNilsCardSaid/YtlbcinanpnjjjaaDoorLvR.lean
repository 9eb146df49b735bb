/- What an instruction reads and writes, by the reference and the program. Condition: at most 40 arguments. -/
import Derived.Test.YtlbcinanpnjjjaaDoorFlD
namespace Go.Proofs.YtlbcinanpnjjjaaDoor
open Go.RowKit Go.Maps
set_option linter.unusedVariables false
set_option linter.unusedSimpArgs false
theorem in_g (xs : List Int) (q : Int) (A : Option Addr) (c : Nat) (r : Bool) (w : World) (h1 : IntsM w A xs) (hr : xs.any (fun x => x == q) = r) :
    Calls Tryd.prog 40 #[.int .i64 q, .slice A xs.length c] w fun e w' => e = .returned (.bool r) ∧ w' = w := by
  have hl := h1.1
  obtain ⟨n, hn⟩ : ∃ n : Nat, xs.length = n := ⟨_, rfl⟩
  rw [hn]
  rw [hn] at hl
  have H1 := hid h1
  have HN := hid hn
  have HR := hid hr
  clear h1 hn hr
  go_enter Tryd.func40, Tryd.ntmps40
  go_wp2
  go_loopg [5] n (fun gk v5 wr => ∃ k : Nat, k ≤ n ∧ gk = n - k ∧ v5 = .int .i64 k ∧ wr = w ∧ Hid (∀ i x, i < k → xs[i]? = some x → (x == q) = false))
  case atStart => exact ⟨0, by omega, by omega, rfl, rfl, hid (fun i x hi => absurd hi (by omega))⟩
  case round =>
    obtain ⟨k, hk, rfl, rfl, rfl, HA⟩ := hrel
    by_cases hlt : k < n
    · have hlt' : (k : Int) < (n : Int) := by omega
      obtain ⟨y, hy⟩ := get_some HN.out hlt
      obtain ⟨b, o, rfl, hb1, hc1⟩ := H1.out.2 k y hy
      simp only [IntAt, Nat.mul_one] at hc1
      have HY := hid hy
      clear hy
      by_cases e : y = q
      · have hf : r = true := HR.out.symm.trans (List.any_eq_true.2 ⟨y, List.mem_of_getElem? HY.out, by simpa using e⟩)
        subst hf
        go_wp2
        go_ret
        exact ⟨rfl, rfl⟩
      · go_wp2
        go_roundg (n - (k + 1))
        case measure => omega
        case rel => exact ⟨k + 1, by omega, by omega, rfl, rfl, hid (fun i x' hi h1 => by
          by_cases hik : i < k
          · exact HA.out i x' hik h1
          · obtain rfl : i = k := by omega
            rw [HY.out] at h1
            cases h1
            simpa using e)⟩
    · have hlt' : ¬ (k : Int) < (n : Int) := by omega
      have hf : r = false := HR.out.symm.trans (List.any_eq_false.2 (fun x hx => by
        obtain ⟨i, hi⟩ := List.getElem?_of_mem hx
        have h2 := HA.out i x (by have := HN.out; have := (List.getElem?_eq_some_iff.1 hi).1; omega) hi
        simpa using h2))
      subst hf
      go_wp2
      go_ret
      exact ⟨rfl, rfl⟩
theorem rwrites_g (r : InD) (bw : Bool) (ao mo : Option Addr) (ac mc : Nat) (w : World) (hb : wrB r.op = bw) :
    Calls Tryd.prog 21 #[.agg (InV r ao ac mo mc)] w fun e w' => e = .returned (.tuple #[.int .i64 (if bw then r.d else 0), .bool bw]) ∧ Hid (Below w.heap.size w w') := by
  obtain ⟨op, d, a, b, tt, el, f, n, l, c, sg, xs, ms⟩ := r
  have HB := hid (below2 w)
  have HW := hid hb
  clear hb
  cases bw
  · go_enter Tryd.func21, Tryd.ntmps21
    go_wp2_with (go_at_call 40; refine (in_g wrL op _ 11 _ _ (ints_new _ wrL _ _ (World.size_alloc _ _) rfl (by decide)) HW.out).mono ?_; rintro e w' ⟨rfl, rfl⟩)
    exact bodyPost_ret (v := .tuple #[.int .i64 0, .bool false]) (by simp [results, Tryd.results21, go_sem]) rfl ⟨rfl, hid (HB.out _ _)⟩
  · go_enter Tryd.func21, Tryd.ntmps21
    go_wp2_with (go_at_call 40; refine (in_g wrL op _ 11 _ _ (ints_new _ wrL _ _ (World.size_alloc _ _) rfl (by decide)) HW.out).mono ?_; rintro e w' ⟨rfl, rfl⟩)
    exact bodyPost_ret (v := .tuple #[.int .i64 d, .bool true]) (by simp [results, Tryd.results21, go_sem]) rfl ⟨rfl, hid (HB.out _ _)⟩
theorem in_l (L : List Int) (n : Nat) (hn : L.length = n) (q : Int) (b c : Nat) (r : Bool) (w : World) (cs : Array Value) (hc : cs.toList = L.map (Value.int .i64)) (hl : L.length ≤ 9223372036854775807) (hb : w.heap.size = b) (hr : L.any (fun x => x == q) = r) :
    Calls Tryd.prog 40 #[.int .i64 q, .slice (some ⟨b, 0, none⟩) n c] (w.alloc (.cells cs 3)) fun e w' => e = .returned (.bool r) ∧ w' = w.alloc (.cells cs 3) := by
  subst hn
  exact in_g L q _ c r _ (ints_new w L cs b hb hc hl) hr
theorem in_rd (q : Int) (b : Nat) (r : Bool) (w : World) (hb : w.heap.size = b) (hr : rd1 q = r) :
    Calls Tryd.prog 40 #[.int .i64 q, .slice (some ⟨b, 0, none⟩) 12 12] (w.alloc (.cells #[.int .i64 3, .int .i64 4, .int .i64 6, .int .i64 7, .int .i64 8, .int .i64 9, .int .i64 10, .int .i64 11, .int .i64 13, .int .i64 14, .int .i64 17, .int .i64 18] 3)) fun e w' => e = .returned (.bool r) ∧ w' = w.alloc (.cells #[.int .i64 3, .int .i64 4, .int .i64 6, .int .i64 7, .int .i64 8, .int .i64 9, .int .i64 10, .int .i64 11, .int .i64 13, .int .i64 14, .int .i64 17, .int .i64 18] 3) := in_l rdL 12 rfl q b 12 r w _ rfl (by decide) hb hr
theorem in_rd2 (q : Int) (b : Nat) (r : Bool) (w : World) (hb : w.heap.size = b) (hr : rd2 q = r) :
    Calls Tryd.prog 40 #[.int .i64 q, .slice (some ⟨b, 0, none⟩) 3 3] (w.alloc (.cells #[.int .i64 4, .int .i64 8, .int .i64 11] 3)) fun e w' => e = .returned (.bool r) ∧ w' = w.alloc (.cells #[.int .i64 4, .int .i64 8, .int .i64 11] 3) := in_l rd2L 3 rfl q b 3 r w _ rfl (by decide) hb hr
set_option maxHeartbeats 2000000 in
theorem rreads_none (r : InD) (ao mo : Option Addr) (ac mc : Nat) (w : World) (h1 : rd1 r.op = false) (h2 : rd2 r.op = false) (h3 : ¬ r.op = 15) :
    Calls Tryd.prog 20 #[.agg (InV r ao ac mo mc)] w fun e w' => e = .returned (.slice none 0 0) ∧ Hid (Below w.heap.size w w') := by
  obtain ⟨op, d, a, b, tt, el, f, n, l, c, sg, xs, ms⟩ := r
  have HB := hid (below3a w)
  have H1 := hid h1
  have H2 := hid h2
  simp only at h3
  clear h1 h2
  go_enter Tryd.func20, Tryd.ntmps20
  go_wp2_with (first
    | (go_at_call 40; have hh := H1; clear H1; refine (in_rd op _ _ _ (by simp) hh.out).mono ?_; rintro e w' ⟨rfl, rfl⟩)
    | (go_at_call 40; have hh := H2; clear H2; refine (in_rd2 op _ _ _ (by simp) hh.out).mono ?_; rintro e w' ⟨rfl, rfl⟩))
  go_ret
  exact ⟨rfl, hid (HB.out _ _ _)⟩
set_option maxRecDepth 100000 in
set_option maxHeartbeats 4000000 in
theorem rreads_one (r : InD) (ao mo : Option Addr) (ac mc : Nat) (w : World) (h1 : rd1 r.op = true) (h2 : rd2 r.op = false) (h3 : ¬ r.op = 15) :
    Calls Tryd.prog 20 #[.agg (InV r ao ac mo mc)] w fun e w' => ∃ v, e = .returned v ∧ Hid (IsInts w' v [r.a]) ∧ Hid (OwnInts w' w.heap.size v [r.a]) ∧ Hid (Below w.heap.size w w') := by
  obtain ⟨op, d, a, b, tt, el, f, n, l, c, sg, xs, ms⟩ := r
  have HB2 := hid (below2 w)
  have H1 := hid h1
  have H2 := hid h2
  simp only at h3
  clear h1 h2
  obtain ⟨i0t, hti, hz0, hz1, hz2⟩ := info_parts info3
  have G1 : True := trivial
  have G2 : True := trivial
  go_enter Tryd.func20, Tryd.ntmps20
  go_wp2_with (first
    | (go_at_call 40; have hh := H1; clear H1; refine (in_rd op _ _ _ (by simp) hh.out).mono ?_; rintro e w' ⟨rfl, rfl⟩)
    | (at_builtin; have hh := G1; clear G1; go_must (refine wpList_append_own_at _ rfl _ _ 27 rfl (w.heap.size + 1) 3 i0t (.int .i64 0) 1 8 Tryd.underlying27 hti hz0 hz1 hz2 rfl (by decide) _ 0 [] rfl (World.ownsRow_nil _ _ _ _) _ 1 1 [.int .i64 a] rfl rfl (one_at _ _ _ (by simp)) (by intro u hu; simp at hu; subst hu; rfl) (by unfold maxLen; omega) (by omega) (by simp) ?_); intro v' w1 hown hgrow hnil hblk
       have HO1 := hid hown
       have HX1 := hid (keep_box (old_block (below1 _ _) (by simp <;> omega) (old_block (below1 _ _) (by simp <;> omega) (heap_alloc_new w _))) hgrow (by rintro k e; cases e))
       have HB1 := hid ((HB2.out _ _).alloc (by simp <;> omega) (.cells #[.int .i64 a] 3) |>.grown hgrow (by simp <;> omega) (by rintro k e; cases e))
       have hx1 := cells_at HX1.out
       have hx1b := fun o => cells_at1 HX1.out o
       clear hown hgrow hnil hblk)
    | (go_at_call 40; have hh := H2; clear H2; refine (in_rd2 op _ _ _ (by simp) hh.out).mono ?_; rintro e w' ⟨rfl, rfl⟩))
  go_ret
  exact ⟨_, rfl, hid (ints_owns (xs := [a]) (HO1.out.alloc _) (by simp)), hid (row_low (HO1.out.alloc _) (by omega)), hid (after HB1.out (below1 _ _) HB1.out.size)⟩
set_option maxRecDepth 100000 in
set_option maxHeartbeats 4000000 in
theorem rreads_two (r : InD) (ao mo : Option Addr) (ac mc : Nat) (w : World) (h1 : rd1 r.op = true) (h2 : rd2 r.op = true) (h3 : ¬ r.op = 15) :
    Calls Tryd.prog 20 #[.agg (InV r ao ac mo mc)] w fun e w' => ∃ v, e = .returned v ∧ Hid (IsInts w' v [r.a, r.b]) ∧ Hid (OwnInts w' w.heap.size v [r.a, r.b]) ∧ Hid (Below w.heap.size w w') := by
  obtain ⟨op, d, a, b, tt, el, f, n, l, c, sg, xs, ms⟩ := r
  have HB2 := hid (below2 w)
  have H1 := hid h1
  have H2 := hid h2
  simp only at h3
  clear h1 h2
  obtain ⟨i0t, hti, hz0, hz1, hz2⟩ := info_parts info3
  have G1 : True := trivial
  have G2 : True := trivial
  go_enter Tryd.func20, Tryd.ntmps20
  go_wp2_with (first
    | (go_at_call 40; have hh := H1; clear H1; refine (in_rd op _ _ _ (by simp) hh.out).mono ?_; rintro e w' ⟨rfl, rfl⟩)
    | (at_builtin; have hh := G1; clear G1; go_must (refine wpList_append_own_at _ rfl _ _ 27 rfl (w.heap.size + 1) 3 i0t (.int .i64 0) 1 8 Tryd.underlying27 hti hz0 hz1 hz2 rfl (by decide) _ 0 [] rfl (World.ownsRow_nil _ _ _ _) _ 1 1 [.int .i64 a] rfl rfl (one_at _ _ _ (by simp)) (by intro u hu; simp at hu; subst hu; rfl) (by unfold maxLen; omega) (by omega) (by simp) ?_); intro v' w1 hown hgrow hnil hblk
       have HO1 := hid hown
       have HX1 := hid (keep_box (old_block (below1 _ _) (by simp <;> omega) (old_block (below1 _ _) (by simp <;> omega) (heap_alloc_new w _))) hgrow (by rintro k e; cases e))
       have HB1 := hid ((HB2.out _ _).alloc (by simp <;> omega) (.cells #[.int .i64 a] 3) |>.grown hgrow (by simp <;> omega) (by rintro k e; cases e))
       have hx1 := cells_at HX1.out
       have hx1b := fun o => cells_at1 HX1.out o
       clear hown hgrow hnil hblk)
    | (go_at_call 40; have hh := H2; clear H2; refine (in_rd2 op _ _ _ (by simp) hh.out).mono ?_; rintro e w' ⟨rfl, rfl⟩)
    | (at_builtin; have hh := G2; clear G2; go_must (refine wpList_append_own_at _ rfl _ _ 27 rfl (w.heap.size + 1) 3 i0t (.int .i64 0) 1 8 Tryd.underlying27 hti hz0 hz1 hz2 rfl (by decide) v' _ _ rfl ((HO1.out.alloc _).alloc _) _ 1 1 [.int .i64 b] rfl rfl (one_at _ _ _ (by simp)) (by intro u hu; simp at hu; subst hu; rfl) (by unfold maxLen; omega) (by omega) (by have := HB1.out.size; have := (Array.getElem?_eq_some_iff.1 HX1.out).1; simp <;> omega) ?_); intro v2 w2 hown2 hgrow2 hnil2 hblk2
       have HO2 := hid hown2
       have hlow := fun k (q : v'.ownBlock = some k) => (HO1.out.lt k q).1
       have HX2 := hid (keep_box (old_block (below1 _ _) (by have := (Array.getElem?_eq_some_iff.1 HX1.out).1; simp <;> omega) (old_block (below1 _ _) (Array.getElem?_eq_some_iff.1 HX1.out).1 HX1.out)) hgrow2 hlow)
       have HB3 := hid ((after HB1.out (below2 _ _ _) HB1.out.size).grown hgrow2 (by have := HB1.out.size; simp <;> omega) (fun k q => by have := hlow k q; omega))
       have hx2 := cells_at HX2.out
       clear hown2 hgrow2 hnil2 hblk2 hlow))
  go_ret
  exact ⟨_, rfl, hid (ints_owns (xs := [a, b]) HO2.out (by simp)), hid (row_low HO2.out (by omega)), HB3⟩
theorem news_of {W : World} {A : Option Addr} {xs : List Int} (h : IntsM W A xs) (hx : xs ≠ []) : ∃ b o, A = some ⟨b, o, none⟩ ∧ ∀ j u, (xs.map (Value.int .i64))[j]? = some u → W.cell? ((⟨b, o, none⟩ : Addr).add j) = some u := by
  obtain ⟨x, hx0⟩ : ∃ x, xs[0]? = some x := by cases xs with | nil => exact absurd rfl hx | cons x l => exact ⟨x, rfl⟩
  obtain ⟨b, o, e, -, -⟩ := h.2 0 x hx0
  refine ⟨b, o, e, fun j u hu => ?_⟩
  rw [List.getElem?_map] at hu
  obtain ⟨y, hy, rfl⟩ := Option.map_eq_some_iff.1 hu
  obtain ⟨b', o', e', -, hc⟩ := h.2 j y hy
  rw [e] at e'
  cases e'
  have : W.cell? ⟨b, o + j * 1, none⟩ = some (.int .i64 y) := hc
  unfold Addr.add
  split
  · rename_i hj; subst hj; simpa using this
  · simpa using this
theorem news_later {W W' : World} {b o : Nat} {xs : List Int} (h : IntsM W (some ⟨b, o, none⟩) xs) (hx : xs ≠ []) (hb : Below W.heap.size W W') : ∀ j u, (xs.map (Value.int .i64))[j]? = some u → W'.cell? ((⟨b, o, none⟩ : Addr).add j) = some u := by
  obtain ⟨b', o', e, hn⟩ := news_of (h.later int_stays hb) hx
  cases e
  exact hn
theorem ints_one' (xs : List Int) : ∀ u ∈ xs.map (Value.int .i64), u.oneCell' = true := by
  intro u hu
  obtain ⟨x, -, rfl⟩ := List.mem_map.1 hu
  rfl
set_option maxRecDepth 100000 in
set_option maxHeartbeats 4000000 in
theorem rreads_call (r : InD) (ao mo : Option Addr) (ac mc : Nat) (w : World) (h3 : r.op = 15) (hx : IntsM w ao r.xs) (hl : r.xs.length ≤ 40) :
    Calls Tryd.prog 20 #[.agg (InV r ao ac mo mc)] w fun e w' => ∃ v, e = .returned v ∧ Hid (IsInts w' v r.xs) ∧ Hid (OwnInts w' w.heap.size v r.xs) ∧ Hid (Below w.heap.size w w') := by
  obtain ⟨op, d, a, b, tt, el, f, n, l, c, sg, xs, ms⟩ := r
  simp only at h3 hl hx
  subst h3
  have HB := hid (below3a w)
  have H1 := hid (show rd1 15 = false by decide)
  have H2 := hid (show rd2 15 = false by decide)
  by_cases h0 : xs = []
  · subst h0
    clear hx hl
    rcases ao with - | ad
    · go_enter Tryd.func20, Tryd.ntmps20
      go_wp2_with (first
        | (go_at_call 40; have hh := H1; clear H1; refine (in_rd 15 _ _ _ (by simp) hh.out).mono ?_; rintro e w' ⟨rfl, rfl⟩)
        | (go_at_call 40; have hh := H2; clear H2; refine (in_rd2 15 _ _ _ (by simp) hh.out).mono ?_; rintro e w' ⟨rfl, rfl⟩))
      go_ret
      exact ⟨_, rfl, hid (ints_nil _), hid (World.ownsRow_nil _ _ _ _), HB.out _ _ _⟩
    · obtain ⟨i0t, hti, hz0, hz1, hz2⟩ := info_parts info3
      go_enter Tryd.func20, Tryd.ntmps20
      go_wp2_with (first
        | (go_at_call 40; have hh := H1; clear H1; refine (in_rd 15 _ _ _ (by simp) hh.out).mono ?_; rintro e w' ⟨rfl, rfl⟩)
        | (go_at_call 40; have hh := H2; clear H2; refine (in_rd2 15 _ _ _ (by simp) hh.out).mono ?_; rintro e w' ⟨rfl, rfl⟩)
        | (at_builtin; go_must (refine wpList_append_own_at _ rfl _ _ 27 rfl w.heap.size 3 i0t (.int .i64 0) 1 8 Tryd.underlying27 hti hz0 hz1 hz2 rfl (by decide) _ 0 [] rfl (World.ownsRow_nil _ _ _ _) ad 0 ac [] rfl rfl (fun j u hu => by simp at hu) (fun u hu => by simp at hu) (by unfold maxLen; omega) (by omega) (by simp <;> omega) ?_); intro v' w1 hown hgrow hnil hblk
           have HO1 := hid hown
           have HG1 := hid hgrow
           clear hown hgrow hnil hblk))
      go_ret
      exact ⟨_, rfl, hid (ints_owns (xs := []) HO1.out (by simp)), hid HO1.out, hid ((HB.out _ _ _).grown HG1.out (HB.out _ _ _).size (by rintro k e; cases e))⟩
  · obtain ⟨bx, ox, rfl, hn⟩ := news_of hx h0
    obtain ⟨i0t, hti, hz0, hz1, hz2⟩ := info_parts info3
    obtain ⟨m, hm⟩ : ∃ m : Nat, xs.length = m := ⟨_, rfl⟩
    have HN := hid (fun o p q => (news_later hx h0 (HB.out o p q)))
    have HNE := hid h0
    have HL := hid hm
    rw [hm] at hl
    clear hn hx h0
    have hbx : (InV ⟨15, d, a, b, tt, el, f, n, l, c, sg, xs, ms⟩ (some ⟨bx, ox, none⟩) ac mo mc) = (#[.int .i64 15, .int .i64 d, .int .i64 a, .int .i64 b, .int .i64 f, .int .i64 n, .string sg, .slice (some ⟨bx, ox, none⟩) m ac, .slice mo ms.length mc, .int .i64 tt, .int .i64 el, .int .i64 l, .int .i64 c] : Array Value) := by simp [InV, hm]
    rw [hbx]
    clear hbx hm
    go_enter Tryd.func20, Tryd.ntmps20
    go_wp2_with (first
      | (go_at_call 40; have hh := H1; clear H1; refine (in_rd 15 _ _ _ (by simp) hh.out).mono ?_; rintro e w' ⟨rfl, rfl⟩)
      | (go_at_call 40; have hh := H2; clear H2; refine (in_rd2 15 _ _ _ (by simp) hh.out).mono ?_; rintro e w' ⟨rfl, rfl⟩)
      | (at_builtin; go_must (refine wpList_append_own_at _ rfl _ _ 27 rfl w.heap.size 3 i0t (.int .i64 0) 1 8 Tryd.underlying27 hti hz0 hz1 hz2 rfl (by decide) _ 0 [] rfl (World.ownsRow_nil _ _ _ _) ⟨bx, ox, none⟩ m ac (xs.map (Value.int .i64)) rfl (by rw [List.length_map, HL.out, Nat.mul_one]) (HN.out _ _ _) (ints_one' xs) (by unfold maxLen; omega) (by omega) (by simp <;> omega) ?_); intro v' w1 hown hgrow hnil hblk
         have HO1 := hid hown
         have HG1 := hid hgrow
         clear hown hgrow hnil hblk))
    go_ret
    exact ⟨_, rfl, hid (ints_owns (by simpa using HO1.out) (by have := HL.out; omega)), hid (by have := HO1.out; rw [Nat.zero_add, List.nil_append, ← HL.out] at this; exact this), hid ((HB.out _ _ _).grown HG1.out (HB.out _ _ _).size (by rintro k e; cases e))⟩
theorem rd_split (op : Int) (h : ¬ op = 15) : (rd1 op = false ∧ rd2 op = false) ∨ (rd1 op = true ∧ rd2 op = false) ∨ (rd1 op = true ∧ rd2 op = true) := by
  rcases h1 : rd1 op with - | - <;> rcases h2 : rd2 op with - | -
  · exact .inl ⟨rfl, rfl⟩
  · exfalso
    simp only [rd2, rd2L, List.any_cons, List.any_nil, Bool.or_false, Bool.or_eq_true, beq_iff_eq] at h2
    rcases h2 with h | h | h <;> (subst h; exact absurd h1 (by decide))
  · exact .inr (.inl ⟨rfl, rfl⟩)
  · exact .inr (.inr ⟨rfl, rfl⟩)
/-- What an instruction reads. -/
theorem rreads_g (r : InD) (ao mo : Option Addr) (ac mc : Nat) (w : World) (hx : IntsM w ao r.xs) (hl : r.xs.length ≤ 40) :
    Calls Tryd.prog 20 #[.agg (InV r ao ac mo mc)] w fun e w' => ∃ v, e = .returned v ∧ Hid (IsInts w' v (rdsF r)) ∧ Hid (OwnInts w' w.heap.size v (rdsF r)) ∧ Hid (Below w.heap.size w w') := by
  by_cases h : r.op = 15
  · rw [rdsF, if_pos h]
    exact rreads_call r ao mo ac mc w h hx hl
  · rw [rdsF, if_neg h]
    rcases rd_split r.op h with ⟨h1, h2⟩ | ⟨h1, h2⟩ | ⟨h1, h2⟩
    · rw [h1, h2]
      refine (rreads_none r ao mo ac mc w h1 h2 h).mono fun e w' ⟨he, hb⟩ => ?_
      subst he; exact ⟨_, rfl, hid (ints_nil _), hid (World.ownsRow_nil _ _ _ _), hb⟩
    · rw [h1, h2]
      exact rreads_one r ao mo ac mc w h1 h2 h
    · rw [h1, h2]
      exact rreads_two r ao mo ac mc w h1 h2 h
set_option maxRecDepth 100000 in
set_option maxHeartbeats 4000000 in
theorem writes_g (r : InD) (bw : Bool) (ao mo : Option Addr) (ac mc : Nat) (w : World) (hb : wrB r.op = bw) :
    Calls Tryd.prog 33 #[.agg (InV r ao ac mo mc)] w fun e w' => e = .returned (.tuple #[.int .i64 (if bw then r.d else 0), .bool bw]) ∧ Hid (Below w.heap.size w w') := by
  obtain ⟨op, d, a, b, tt, el, f, n, l, c, sg, xs, ms⟩ := r
  have HB := hid (below1 w)
  have HW := hid hb
  clear hb
  simp only at HW
  cases bw
  · have h0 := HW.out
    simp only [wrB, wrL, List.any_cons, List.any_nil, Bool.or_eq_false_iff] at h0
    obtain ⟨h1, h2, h3, h4, h5, h7, h9, h10, h12, h14, h15, -⟩ := h0
    have f : ∀ {k : Int}, (k == op) = false → (op == k) = false := fun h => by simp at h ⊢; omega
    have g1 := f h1
    have g2 := f h2
    have g3 := f h3
    have g4 := f h4
    have g5 := f h5
    have g7 := f h7
    have g9 := f h9
    have g10 := f h10
    have g12 := f h12
    have g14 := f h14
    have g15 := f h15
    clear h1 h2 h3 h4 h5 h7 h9 h10 h12 h14 h15
    go_enter Tryd.func33, Tryd.ntmps33
    go_wp2
    exact bodyPost_ret (v := .tuple #[.int .i64 0, .bool false]) (by simp [results, Tryd.results33, go_sem]) rfl ⟨rfl, hid (HB.out _)⟩
  · have h0 := HW.out
    simp only [wrB, wrL, List.any_cons, List.any_nil, Bool.or_eq_true, beq_iff_eq, Bool.false_eq_true, or_false] at h0
    rcases h0 with rfl | rfl | rfl | rfl | rfl | rfl | rfl | rfl | rfl | rfl | rfl
    all_goals
      go_enter Tryd.func33, Tryd.ntmps33
      go_wp2
      exact bodyPost_ret (v := .tuple #[.int .i64 d, .bool true]) (by simp [results, Tryd.results33, go_sem]) rfl ⟨rfl, hid (HB.out _)⟩
end Go.Proofs.YtlbcinanpnjjjaaDoor
