/- What is reached, by the reference. Condition: fewer than a million instructions. -/
import Derived.Test.YtbmjhkimeeahhaaFlH
import Derived.StillTailTactics
namespace Go.Proofs.Ytbmjhkimeeahhaa
open Go.RowKit Go.Maps
set_option linter.unusedVariables false
set_option linter.unusedSimpArgs false
/-- What the list that waits holds between rounds: one is next, or none is. -/
def RO (w0 W : World) (G n : Nat) (nx : Nat → List Nat) (i : Nat) (v : Value) (todo : List Nat) : Prop :=
  ∃ out, (∃ y, todo[i]? = some y ∧ RS w0 W G n nx i (nx y) v todo out) ∨ (i = todo.length ∧ Below w0.heap.size w0 W ∧ BlM W G n out ∧ (∀ z, out z = true ↔ Way nx 0 z) ∧ ∃ A c, v = .slice A todo.length c)
/-- What is left to tell. -/
def ReachPost (x : CoD) (w : World) (e : Ending) (w' : World) : Prop :=
  ∃ A c l, e = .returned (.slice A x.ins.length c) ∧ Hid (l.length = x.ins.length ∧ BoolsM w' A l ∧ ∀ i, i < x.ins.length → (l[i]? = some true ↔ Way (nxE x) 0 i)) ∧ Hid (Below w.heap.size w w')
theorem reach_list {x : CoD} {W : World} {G n : Nat} {out : Met} (hn : x.ins.length = n) (hs : n < 1000000) (h : BlM W G n out) (hw : ∀ z, out z = true ↔ Way (nxE x) 0 z) :
    ∃ l : List Bool, l.length = n ∧ BoolsM W (some ⟨G, 0, none⟩) l ∧ ∀ i, i < n → (l[i]? = some true ↔ Way (nxE x) 0 i) := by
  refine ⟨(List.range n).map out, by simp, h.list (by omega), fun i hi => ?_⟩
  rw [List.getElem?_map, List.getElem?_range hi]
  simp [hw]
/-- What holds while the edges of one are gone through. -/
def RI (w0 W : World) (G n : Nat) (nx : Nat → List Nat) (i : Nat) (es : List Nat) (v5 v7 : Value) (E : List Int) (base : Nat) (todo : List Nat) : Prop :=
  ∃ out, RS w0 W G n nx i es v5 todo out ∧ i < todo.length ∧ OwnInts W base v7 E ∧ ∀ g, v7.ownBlock = some g → g ≠ G ∧ v5.ownBlock ≠ some g
theorem own_cell {W : World} {base : Nat} {A : Option Addr} {c j m : Nat} {E : List Int} {u : Int} (h : OwnInts W base (.slice A m c) E) (hu : E[j]? = some u) :
    ∃ b, A = some ⟨b, 0, none⟩ ∧ b < W.heap.size ∧ W.cell? ⟨b, j, none⟩ = some (.int .i64 u) := by
  have hn : E.length ≠ 0 := by have := (List.getElem?_eq_some_iff.1 hu).1; omega
  rcases h.2 with ⟨-, h0⟩ | ⟨g, cap, cur, e, hb, hg, hnc, hcm, hs, ht⟩
  · exact absurd h0 hn
  · injection e with e1 e2 e3
    refine ⟨g, e1, (Array.getElem?_eq_some_iff.1 hg).1, ?_⟩
    rw [cells_at hg j, ← Array.getElem?_toList]
    have hj := (List.getElem?_eq_some_iff.1 hu).1
    have := congrArg (fun l => l[j]?) ht
    simp only [List.getElem?_take, List.getElem?_map, hu] at this
    rw [if_pos (by omega)] at this
    exact this
theorem RI.skip {w0 W W' : World} {G n i k base : Nat} {nx : Nat → List Nat} {es todo : List Nat} {v5 v7 : Value} {E : List Int} {out : Met} (h : RS w0 W G n nx i (k :: es) v5 todo out) (hi : i < todo.length) (ho : OwnInts W base v7 E) (hg : ∀ g, v7.ownBlock = some g → g ≠ G ∧ v5.ownBlock ≠ some g) (hk : out k = true) (hb : Below W.heap.size W W') : RI w0 W' G n nx i es v5 v7 E base todo :=
  ⟨out, (h.skip hi hk).later hb, hi, row_at ho (fun g q => hb.block g (row_lt ho q).2), hg⟩
theorem RI.push {w0 W W1 W2 W3 : World} {G n i k base : Nat} {nx : Nat → List Nat} {es todo : List Nat} {v5 v7 v' : Value} {E : List Int} {out : Met} (h : RS w0 W G n nx i (k :: es) v5 todo out) (hi : i < todo.length) (ho : OwnInts W base v7 E) (hg : ∀ g, v7.ownBlock = some g → g ≠ G ∧ v5.ownBlock ≠ some g) (hk : out k = false) (hkn : k < n) (hG : w0.heap.size ≤ G)
    (h1 : W1 = W.setCell ⟨G, k, none⟩ (.bool true)) (h2 : Below W1.heap.size W1 W2) (h3 : W3.ownsRow w0.heap.size 3 1 v' (todo.length + 1) (natV todo ++ [.int .i64 k])) (hgr : W2.grownBy W3 v5.ownBlock) (hbl : v'.ownBlock = v5.ownBlock ∨ v'.ownBlock = some W2.heap.size) : RI w0 W3 G n nx i es v' v7 E base (todo ++ [k]) := by
  have hs : W1.heap.size = W.heap.size := by subst h1; simp [World.setCell]
  refine ⟨mark out k, h.push hi hk hkn hG h1 h2 h3 hgr, by simp; omega, row_at ho (fun g q => ?_), fun g q => ⟨(hg g q).1, ?_⟩⟩
  · have hl := (row_lt ho q).2
    have h4 := hgr.block g (by have := h2.size; omega) (fun e => (hg g q).2 e.symm)
    rw [h4, h2.block g (by omega)]
    subst h1
    exact Below.heap_setCell _ _ _ _ (hg g q).1
  · rcases hbl with e | e
    · rw [e]; exact (hg g q).2
    · rw [e]
      have hl := (row_lt ho q).2
      have := h2.size
      intro e2
      injection e2 with e2
      omega
theorem RO.step {w0 W : World} {G n i : Nat} {nx : Nat → List Nat} {todo : List Nat} {v : Value} {out : Met} (h : RS w0 W G n nx i [] v todo out) (hi : i < todo.length) (hn : n < 1000000) : RO w0 W G n nx (i + 1) v todo := by
  by_cases h1 : i + 1 < todo.length
  · exact ⟨out, .inl ⟨_, List.getElem?_eq_getElem h1, h.next hi (List.getElem?_eq_getElem h1)⟩⟩
  · obtain ⟨A, c, e, -⟩ := h.form hn
    exact ⟨out, .inr ⟨by omega, h.bel, h.bl, h.wait.end (by omega), A, c, e⟩⟩
set_option maxRecDepth 100000 in
set_option maxHeartbeats 8000000 in
theorem rreach_g (x : CoD) (va fa ia : Option Addr) (vc fc ic : Nat) (w : World) (hs : x.ins.length < 1000000) (hC : RowM 13 InAt w ia x.ins) :
    Calls Try.prog 11 #[.agg (CoV x va vc fa fc ia ic)] w (ReachPost x w) := by
  have HB := hid (below1 w (.cells (CoV x va vc fa fc ia ic) 30))
  have HX := hid (heap_alloc_new w (.cells (CoV x va vc fa fc ia ic) 30))
  obtain ⟨i0t, hti, hz0, hz1, hz2⟩ := info_parts info4
  obtain ⟨i3t, hti3, hz03, hz13, hz23⟩ := info_parts info3
  obtain ⟨n, hn⟩ : ∃ n, x.ins.length = n := ⟨_, rfl⟩
  have HNX : Hid (∀ (k : Nat) (r : InD) (W : World), Below w.heap.size w W → x.ins[k]? = some r → Calls Try.prog 21 #[.agg #[.string x.nm, .int .i64 x.pr, .slice va x.vs.length vc, .bool x.rt.t.p, .string x.rt.t.name, .int .i64 x.rt.cls, .slice fa x.fr.length fc, .slice ia n ic], .int .i64 k] W fun e w' => ∃ v, e = .returned v ∧ Hid (IsInts w' v (edgesL x k)) ∧ Hid (OwnInts w' W.heap.size v (edgesL x k)) ∧ Hid (Below W.heap.size W w')) :=
    hid (fun k r W hb hr => by rw [← hn]; exact rnext8_g x k r va fa ia vc fc ic W hr (by have := (List.getElem?_eq_some_iff.1 hr).1; omega) (hC.later in_stays hb))
  have hx := fun i => cells_at HX.out i
  have b2 : i0t.bytes * n ≤ 281474976710656 := by rw [hz2]; omega
  have b3 : n ≤ maxLen := by unfold maxLen; omega
  have HM := hid b2
  have HM3 := hid b3
  have HN := hid hn
  have HS := hid hs
  clear hC hs b2 b3
  go_enter Try.func11, Try.ntmps11
  have HBL0 := hid (by have := HB.out.size; exact this)
  by_cases h0 : n = 0
  · subst h0
    go_wp2_with (at_make; refine wpList_make_full _ rfl _ _ 34 rfl w.heap.size 4 i0t (.bool false) 1 Try.underlying34 hti hz0 hz1 .i64 .i64 0 0 0 rfl rfl rfl rfl HM.out HM3.out HB.out.size ?_; intro w1 hown hgrow
                 have HB1 := hid (HB.out.grown hgrow HB.out.size (by rintro k e; cases e))
                 have HBL := hid (BlM.made hown)
                 clear hown hgrow)
    go_ret
    exact ⟨_, _, [], by rw [HN.out]; rfl, hid ⟨HN.out.symm, ⟨by simp, fun i x hx => by simp at hx⟩, fun i hi => absurd hi (by rw [HN.out]; omega)⟩, HB1⟩
  · have e0 : ((n : Int) == (0 : Int)) = false := by simp; omega
    go_wp2_with (at_make; refine wpList_make_full _ rfl _ _ 34 rfl w.heap.size 4 i0t (.bool false) 1 Try.underlying34 hti hz0 hz1 .i64 .i64 (n : Int) (n : Int) n rfl rfl rfl rfl HM.out HM3.out HB.out.size ?_; intro w1 hown hgrow
                 have HB1 := hid (HB.out.grown hgrow HB.out.size (by rintro k e; cases e))
                 have HX1 := hid (lay ((Below.refl _ _).grown hgrow (Nat.le_refl _) (by rintro k e; cases e)) HX.out)
                 have HBL : Hid (BlM w1 (w.heap.size + 1) n (fun _ => false)) := hid (by have := BlM.made hown; rwa [World.size_alloc] at this)
                 have hb0 := HBL.out.cell (i := 0) (by omega)
                 have hf0 := HBL.out.soft 0
                 have hgr := hgrow
                 clear hown hgrow)
    obtain ⟨w0, hw0⟩ : ∃ w0, w.alloc (.cells (CoV x va vc fa fc ia ic) 30) = w0 := ⟨_, rfl⟩
    have hsz : w0.heap.size = w.heap.size + 1 := by rw [← hw0]; simp
    rw [hw0] at HB HX hgr
    have HB01 := hid ((Below.refl w0.heap.size w0).grown hgr (Nat.le_refl _) (by rintro k e; cases e))
    have HSZ := hid hsz
    have HR0 : Hid (RO w0 ((w1.setCell ⟨w.heap.size + 1, 0, none⟩ (.bool true)).alloc (.cells #[.int .i64 0] 3)) (w.heap.size + 1) n (nxE x) 0 (.slice (some ⟨w1.heap.size, 0, none⟩) 1 1) [0]) := by
      refine hid ⟨mark (fun _ => false) 0, .inl ⟨0, rfl, ⟨?_, ?_, ?_, wait_start _ _, ?_⟩⟩⟩
      · exact (HB01.out.setCell (by rw [hsz]; exact Nat.le_refl _) _).alloc (by have := HB01.out.size; simp [World.setCell]; omega) _
      · exact (HBL.out.set 0).later (below1 _ _)
      · exact owns_at (#[.int .i64 0]) [0] (by have := heap_alloc_new (w1.setCell ⟨w.heap.size + 1, 0, none⟩ (.bool true)) (.cells #[.int .i64 0] 3); simpa [World.setCell] using this) rfl (HB01.out.size) (by simp)
      · intro y hy; simp at hy; omega
    clear hgr hx HX1 HBL hb0 hf0 HB1 HBL0 HM HM3 hsz hw0
    go_loopg [5, 6] n (fun gk v5 v6 wr => ∃ (i : Nat) (todo : List Nat), gk = n - i ∧ v6 = .int .i64 i ∧ Hid (RO w0 wr (w.heap.size + 1) n (nxE x) i v5 todo))
    case atStart => exact ⟨0, [0], by omega, rfl, HR0⟩
    case round =>
      clear HR0
      obtain ⟨i, todo, rfl, rfl, hro⟩ := hrel
      obtain ⟨out, hro⟩ := hro.out
      rcases hro with ⟨y, hy, hrs⟩ | ⟨hi, hm, hbl, hw, A, c, rfl⟩
      · have hit : i < todo.length := (List.getElem?_eq_some_iff.1 hy).1
        obtain ⟨A, c, rfl, hA⟩ := hrs.form (by have := HS.out; omega)
        have hyn := hrs.lt y (List.mem_of_getElem? hy)
        have htn := hrs.len
        obtain ⟨bt, ot, rfl, hbt, hct⟩ := hA.2 i (y : Int) (by rw [List.getElem?_map, hy]; rfl)
        simp only [IntAt, Nat.mul_one] at hct
        obtain ⟨r, hr⟩ := get_some HN.out hyn
        have HXr := hid (lay (W' := wr) (W := w0) hrs.bel HX.out)
        have hxr := cells_at HXr.out
        have HR := hid hr
        have HRS := hid hrs
        have HBT := hid hbt
        have HY := hid hy
        obtain ⟨L, hL⟩ : ∃ L, todo.length = L := ⟨_, rfl⟩
        have HTL := hid hL
        rw [hL] at hit htn
        have hit' : (i : Int) < (L : Int) := by omega
        have i0 : (0 : Int) ≤ (i : Int) := by omega
        have y0 : (0 : Int) ≤ (y : Int) := by omega
        have L9 : (L : Int) ≤ 9223372036854775807 := by have := HS.out; omega
        clear hA hro hy hrs hr hbt
        rw [hL] at HRS ⊢
        have HKr := hid hct
        go_wp2
        go_still_tail 5, (by kernel_rfl)
        change wpList _ _ _ _ _ wr.drew
        obtain ⟨w4, hw4⟩ : ∃ w4, wr.drew = w4 := ⟨_, rfl⟩
        have HRS4 : Hid (RS w0 w4 (w.heap.size + 1) n (nxE x) i (nxE x y) (.slice (some ⟨bt, ot, none⟩) L c) todo out) := hid (by rw [← hw4]; exact HRS.out.later (below_drew1 _))
        rw [hw4]
        clear HRS HXr HKr hw4
        go_wp2_with (go_at_call 21; go_must (refine (HNX.out y r _ (after HB.out HRS4.out.bel HB.out.size) HR.out).mono ?_); rintro e v ⟨v7, rfl, hi5, ho5, hb5⟩; have HI5 := hid hi5.out; have HO5 := hid ho5.out; have HRS := hid (HRS4.out.later hb5.out); have HSV := hid hb5.out.size; clear hi5 ho5 hb5)
        obtain ⟨A7, c7, rfl, hA7⟩ := HI5.out
        obtain ⟨E, hE⟩ : ∃ E, edgesL x y = E := ⟨_, rfl⟩
        have HE := hid hE
        have hfew : E.length ≤ 2 := hE ▸ edges_few x y
        rw [hE] at HO5 ⊢
        obtain ⟨m, hm⟩ : ∃ m, E.length = m := ⟨_, rfl⟩
        have HM := hid hm
        rw [hm] at HO5 hfew ⊢
        have hlen : (nxE x y).length = m := by rw [nxE_len, hE, hm]
        have HL := hid hlen
        have HI0 : Hid (RI w0 v (w.heap.size + 1) n (nxE x) i ((nxE x y).drop 0) (.slice (some ⟨bt, ot, none⟩) L c) (.slice A7 m c7) E w4.heap.size todo) :=
          hid ⟨out, HRS.out, by rw [HTL.out]; exact hit, HO5.out, fun g q => ⟨fun e => by have h1 := HRS4.out.bl.lt; have h2 := (row_lt HO5.out q).1; omega, fun e => by have h1 := (row_lt HRS4.out.row e).2; have h2 := (row_lt HO5.out q).1; omega⟩⟩
        clear HI5 hA7 hE hm hct hxr hL hlen
        go_loopg [5, 8] m (fun gk v5 v8 wi => ∃ (j : Nat) (todo' : List Nat), j ≤ m ∧ gk = m - j ∧ v8 = .int .i64 j ∧ Hid (RI w0 wi (w.heap.size + 1) n (nxE x) i ((nxE x y).drop j) v5 (.slice A7 m c7) E w4.heap.size todo'))
        case atStart => exact ⟨0, todo, by omega, by omega, rfl, HI0⟩
        case round =>
          clear HI0
          obtain ⟨j, todo', hj, rfl, rfl, hri⟩ := hrel
          obtain ⟨out', hrs, hi', ho, hg⟩ := hri.out
          by_cases hjm : j < m
          · have hjm' : (j : Int) < (m : Int) := by omega
            have j0 : (0 : Int) ≤ (j : Int) := by omega
            have m9 : (m : Int) ≤ 9223372036854775807 := by omega
            have n9 : (n : Int) ≤ 9223372036854775807 := by have := HS.out; have := HN.out; omega
            obtain ⟨u, hu⟩ := get_some HM.out hjm
            obtain ⟨k, rfl, hkn, hk⟩ := edges_get (x := x) (k := y) (i := j) (v := u) (by rw [HE.out]; exact hu)
            rw [HN.out] at hkn
            have k0 : (0 : Int) ≤ (k : Int) := by omega
            have hkn' : (k : Int) < (n : Int) := by omega
            have hdrop : (nxE x y).drop j = k :: (nxE x y).drop (j + 1) := by
              obtain ⟨h1, h2⟩ := List.getElem?_eq_some_iff.1 hk
              rw [List.drop_eq_getElem_cons h1, h2]
            rw [hdrop] at hrs
            obtain ⟨b7, rfl, hb7, hc7⟩ := own_cell ho hu
            have hcb := hrs.bl.cell hkn
            have hfb := hrs.bl.soft k
            have HRI := hid hrs
            have HO := hid ho
            have HG := hid hg
            have htl := hrs.len
            have hgb : b7 ≠ w.heap.size + 1 := (hg b7 rfl).1
            have HKN := hid hkn
            clear hri hrs ho hg hk hdrop hu
            cases hb : out' k
            case true =>
              rw [hb] at hcb
              go_wp2
              go_roundg (m - (j + 1))
              case measure => omega
              case rel => exact ⟨j + 1, todo', by omega, rfl, rfl, hid (RI.skip HRI.out hi' HO.out HG.out hb (Below.refl _ _))⟩
            case false =>
              rw [hb] at hcb
              have hc72 : (wr.setCell ⟨w.heap.size + 1, k, none⟩ (.bool true)).cell? ⟨b7, j, none⟩ = some (.int .i64 k) := (World.cell?_of_block (w := wr) (Below.heap_setCell _ _ _ _ hgb)).trans hc7
              go_wp2_with (at_builtin; go_must (refine wpList_append_own_at _ rfl _ _ 27 rfl w0.heap.size 3 i3t (.int .i64 0) 1 8 Try.underlying27 hti3 hz03 hz13 hz23 rfl (by decide) _ todo'.length (natV todo') rfl (HRI.out.row2 rfl (below1 _ _)) ⟨wr.heap.size, 0, none⟩ 1 1 [.int .i64 k] rfl rfl (one_at _ _ _ (by simp [World.setCell])) (by intro u hu; simp at hu; subst hu; rfl) (by have := HS.out; have := HN.out; unfold maxLen; omega) (by have := HS.out; have := HN.out; omega) (by have := HRI.out.bel.size; simp [World.setCell]; omega) ?_); intro v9 w9 hown9 hgrow9 hnil9 hblk9
                           have HPU := hid (RI.push HRI.out hi' HO.out HG.out hb HKN.out (by have := HSZ.out; omega) rfl (below1 _ _) hown9 hgrow9 hblk9)
                           clear hown9 hgrow9 hnil9 hblk9)
              go_roundg (m - (j + 1))
              case measure => omega
              case rel => exact ⟨j + 1, todo' ++ [k], by omega, rfl, rfl, HPU⟩
          · have hjm' : ¬ (j : Int) < (m : Int) := by omega
            obtain rfl : j = m := by omega
            rw [List.drop_eq_nil_of_le (by have := HL.out; omega)] at hrs
            have HRE := hid hrs
            have HIE := hid hi'
            clear hri hrs ho hg
            go_wp2
            go_roundg (n - (i + 1))
            case measure => omega
            case rel => exact ⟨i + 1, todo', rfl, rfl, hid (RO.step HRE.out HIE.out (by have := HS.out; have := HN.out; omega))⟩
      · subst hi
        obtain ⟨l, h1, h2, h3⟩ := reach_list HN.out (by have := HS.out; have := HN.out; omega) hbl hw
        have H2 := hid h2
        have H3 := hid h3
        have HBE := hid (after HB.out hm HB.out.size)
        have HH1 := hid h1
        obtain ⟨L, hL⟩ : ∃ L, todo.length = L := ⟨_, rfl⟩
        rw [hL]
        have hLL : ¬ (L : Int) < (L : Int) := by omega
        clear h1 h2 h3 hro hbl hw hm
        go_wp2
        go_ret
        exact ⟨some ⟨w.heap.size + 1, 0, none⟩, n, l, by rw [HN.out]; rfl, hid ⟨by rw [HN.out]; exact HH1.out, H2.out, fun i hi => H3.out i (by rw [← HN.out]; exact hi)⟩, HBE⟩
end Go.Proofs.Ytbmjhkimeeahhaa
