/- A walk as deep as it can go, by the reference: it calls itself. Condition: fewer than a million instructions. -/
import Derived.Test.YtbmjhkimeeahhaaFlQ
import Derived.StillTailTactics
import Derived.Test.YtbmjhkimeeahhaaFlI
namespace Go.Proofs.Ytbmjhkimeeahhaa
open Go.RowKit Go.Maps
set_option linter.unusedVariables false
set_option linter.unusedSimpArgs false
/-- What holds while the edges of one are gone. -/
structure RW (w : World) (M n : Nat) (cv : Array Value) (E : List Int) (W : World) (vl vs ve : Value) (ll sl : List Nat) (m : Met) : Prop where
  old : w.grownBy W (some M)
  bl : BlM W M n m
  box : W.heap[w.heap.size]? = some (.cells cv 30 (0, 0))
  lr : OwnN W w.heap.size vl ll
  sr : OwnN W w.heap.size vs sl
  er : OwnInts W w.heap.size ve E
  ls : ∀ g, vl.ownBlock = some g → vs.ownBlock ≠ some g ∧ ve.ownBlock ≠ some g
  se : ∀ g, vs.ownBlock = some g → ve.ownBlock ≠ some g
  mlt : M < w.heap.size
section
variable {w W W' : World} {M n : Nat} {cv : Array Value} {E : List Int} {vl vs ve v' : Value} {ll sl A : List Nat} {m m' : Met}
theorem grown_trans {A B C : World} {r : Option Nat} (h : A.grownBy B r) (k : B.grownBy C r) : A.grownBy C r :=
  ⟨k.os.trans h.os, k.tape.trans h.tape, k.output.trans h.output, Nat.le_trans h.size k.size, fun i hi hn => (k.block i (Nat.lt_of_lt_of_le hi h.size) hn).trans (h.block i hi hn)⟩
theorem grown_of_below {A B : World} {r : Option Nat} (h : Below A.heap.size A B) : A.grownBy B r := ⟨h.os, h.tape, h.output, h.size, fun k hk _ => h.block k hk⟩
/-- A call that writes what was met, and what is new. -/
theorem RW.call (h : RW w M n cv E W vl vs ve ll sl m) (hg : W.grownBy W' (some M)) (hb : BlM W' M n m') : RW w M n cv E W' vl vs ve ll sl m' := by
  have hm := h.mlt
  have hr : ∀ g, w.heap.size ≤ g ∧ g < W.heap.size → W'.heap[g]? = W.heap[g]? := fun g hg2 => hg.block g hg2.2 (fun e => by injection e with e; omega)
  exact ⟨grown_trans h.old hg, hb, (hr _ ⟨Nat.le_refl _, (Array.getElem?_eq_some_iff.1 h.box).1⟩).trans h.box, row_at h.lr (fun g q => hr g (row_lt h.lr q)), row_at h.sr (fun g q => hr g (row_lt h.sr q)), row_at h.er (fun g q => hr g (row_lt h.er q)), h.ls, h.se, h.mlt⟩
theorem RW.later (h : RW w M n cv E W vl vs ve ll sl m) (hb : Below W.heap.size W W') : RW w M n cv E W' vl vs ve ll sl m := h.call (grown_of_below hb) (h.bl.later hb)
theorem grown_row {r : Option Nat} (h : w.grownBy W (some M)) (hg : W.grownBy W' r) (hr : ∀ g, r = some g → w.heap.size ≤ g) : w.grownBy W' (some M) :=
  ⟨hg.os.trans h.os, hg.tape.trans h.tape, hg.output.trans h.output, Nat.le_trans h.size hg.size, fun i hi hn => (hg.block i (Nat.lt_of_lt_of_le hi h.size) (fun e => by have := hr i e.symm; omega)).trans (h.block i hi hn)⟩
theorem RW.left {q : Nat} (h : RW w M n cv E W vl vs ve ll sl m) (hown : W'.ownsRow w.heap.size 3 1 v' q (natV ll ++ natV A)) (hq : q = (ll ++ A).length) (hg : W.grownBy W' vl.ownBlock) (hv : v'.ownBlock = vl.ownBlock ∨ v'.ownBlock = some W.heap.size) : RW w M n cv E W' v' vs ve (ll ++ A) sl m := by
  subst hq
  have hm := h.mlt
  have hr : ∀ g, g < W.heap.size → vl.ownBlock ≠ some g → W'.heap[g]? = W.heap[g]? := fun g hg2 hn => hg.block g hg2 (fun e => hn e.symm)
  have hbox := row_not79 h.lr h.box (by decide)
  refine ⟨grown_row h.old hg (fun g q => (row_lt h.lr q).1), h.bl.grown hg (h.bl.not h.lr (by decide)), (hr _ (Array.getElem?_eq_some_iff.1 h.box).1 hbox).trans h.box, (show W'.ownsRow _ 3 1 v' _ _ from by rw [show natV (ll ++ A) = natV ll ++ natV A by simp [natV]]; exact hown), row_at h.sr (fun g q => hr g (row_lt h.sr q).2 (fun e => (h.ls g e).1 q)), row_at h.er (fun g q => hr g (row_lt h.er q).2 (fun e => (h.ls g e).2 q)), fun g q => ?_, h.se, h.mlt⟩
  rcases hv with e | e
  · exact h.ls g (e ▸ q)
  · rw [e] at q
    cases q
    exact ⟨fun e => by have := (row_lt h.sr e).2; omega, fun e => by have := (row_lt h.er e).2; omega⟩
theorem RW.seen {q : Nat} (h : RW w M n cv E W vl vs ve ll sl m) (hown : W'.ownsRow w.heap.size 3 1 v' q (natV sl ++ natV A)) (hq : q = (sl ++ A).length) (hg : W.grownBy W' vs.ownBlock) (hv : v'.ownBlock = vs.ownBlock ∨ v'.ownBlock = some W.heap.size) : RW w M n cv E W' vl v' ve ll (sl ++ A) m := by
  subst hq
  have hm := h.mlt
  have hr : ∀ g, g < W.heap.size → vs.ownBlock ≠ some g → W'.heap[g]? = W.heap[g]? := fun g hg2 hn => hg.block g hg2 (fun e => hn e.symm)
  have hbox := row_not79 h.sr h.box (by decide)
  refine ⟨grown_row h.old hg (fun g q => (row_lt h.sr q).1), h.bl.grown hg (h.bl.not h.sr (by decide)), (hr _ (Array.getElem?_eq_some_iff.1 h.box).1 hbox).trans h.box, row_at h.lr (fun g q => hr g (row_lt h.lr q).2 (fun e => (h.ls g q).1 e)), (show W'.ownsRow _ 3 1 v' _ _ from by rw [show natV (sl ++ A) = natV sl ++ natV A by simp [natV]]; exact hown), row_at h.er (fun g q => hr g (row_lt h.er q).2 (fun e => h.se g e q)), fun g q => ?_, fun g q => ?_, h.mlt⟩
  · refine ⟨fun e2 => ?_, (h.ls g q).2⟩
    rcases hv with e | e
    · exact (h.ls g q).1 (e ▸ e2)
    · rw [e] at e2
      cases e2
      have := (row_lt h.lr q).2
      omega
  · rcases hv with e | e
    · exact h.se g (e ▸ q)
    · rw [e] at q
      cases q
      exact fun e => by have := (row_lt h.er e).2; omega
/-- The cells of a list that is no nil. -/
theorem own_cells {base : Nat} {v : Value} {L : List Nat} (h : OwnN W base v L) (hL : L ≠ []) : ∃ g cap, v = .slice (some ⟨g, 0, none⟩) L.length cap ∧ base ≤ g ∧ g < W.heap.size ∧ ∀ j u, (natV L)[j]? = some u → W.cell? ((⟨g, 0, none⟩ : Addr).add j) = some u := by
  obtain ⟨g, cap, rfl, h1, h2, -⟩ := row_cell h (fun e => hL (List.length_eq_zero_iff.1 e))
  exact ⟨g, cap, rfl, h2, h1, h.cells rfl⟩
end
theorem natV_one (L : List Nat) : ∀ u ∈ natV L, u.oneCell' = true := by
  intro u hu
  obtain ⟨k, -, rfl⟩ := List.mem_map.1 hu
  rfl
theorem natV_len (L : List Nat) : (natV L).length = L.length * 1 := by simp [natV]
theorem RW.start {w W2 : World} {M n a : Nat} {m : Met} {cv : Array Value} {E : List Int} {ve : Value} (hb : BlM w M n m)
    (h2 : Below ((((w.setCell ⟨M, a, none⟩ (.bool true)).alloc (.cells cv 30)).alloc (.cells #[.int .i64 (a : Int)] 3))).heap.size (((w.setCell ⟨M, a, none⟩ (.bool true)).alloc (.cells cv 30)).alloc (.cells #[.int .i64 (a : Int)] 3)) W2)
    (ho : OwnInts W2 ((((w.setCell ⟨M, a, none⟩ (.bool true)).alloc (.cells cv 30)).alloc (.cells #[.int .i64 (a : Int)] 3))).heap.size ve E) :
    RW w M n cv E W2 (.slice none 0 0) (.slice (some ⟨w.heap.size + 1, 0, none⟩) 1 1) ve [] [a] (mark m a) := by
  have hs : (w.setCell ⟨M, a, none⟩ (.bool true)).heap.size = w.heap.size := by simp [World.setCell]
  have hsz : ((((w.setCell ⟨M, a, none⟩ (.bool true)).alloc (.cells cv 30)).alloc (.cells #[.int .i64 (a : Int)] 3))).heap.size = w.heap.size + 2 := by simp [hs]
  have hbx := boxes' (w.setCell ⟨M, a, none⟩ (.bool true)) cv 30 #[.int .i64 (a : Int)] 3
  rw [hs] at hbx
  have hm := hb.lt
  have hb1 := ((hb.set a).later (below2 _ (.cells cv 30) (.cells #[.int .i64 (a : Int)] 3))).later h2
  have hg : w.grownBy W2 (some M) := by
    have h1 : w.grownBy (w.setCell ⟨M, a, none⟩ (.bool true)) (some M) := ⟨rfl, rfl, rfl, by simp [World.setCell], fun i hi hne => Below.heap_setCell _ _ _ _ (fun e => hne (by rw [e]))⟩
    exact grown_trans (grown_trans h1 (grown_of_below (below2 _ _ _))) (grown_of_below h2)
  refine ⟨hg, hb1, lay h2 hbx.1, World.ownsRow_nil _ _ _ _, ?_, row_low ho (by omega), fun g q => (by cases q), fun g q => ?_, hm⟩
  · exact owns_at (#[.int .i64 (a : Int)]) [(a : Int)] (lay h2 hbx.2) rfl (by omega) (by simp)
  · cases q
    exact fun e => by have := (row_lt ho (g := w.heap.size + 1) e).1; omega
theorem below_grown {w0 w W : World} {M : Nat} (h : Below w0.heap.size w0 w) (hM : w0.heap.size ≤ M) (hg : w.grownBy W (some M)) : Below w0.heap.size w0 W :=
  h.grown hg h.size (fun k e => by cases e; exact hM)
def WalkP (x : CoD) (w : World) (M a : Nat) (l s : List Nat) (m' : Met) (e : Ending) (w' : World) : Prop :=
  ∃ v1 v2, e = .returned (.tuple #[v1, v2]) ∧ Hid (OwnN w' w.heap.size v1 (l ++ [a])) ∧ Hid (OwnN w' w.heap.size v2 (a :: s)) ∧ Hid (BlM w' M x.ins.length m') ∧ Hid (w.grownBy w' (some M))
set_option maxRecDepth 100000 in
set_option maxHeartbeats 8000000 in
theorem rwalk_f (x : CoD) (va fa ia : Option Addr) (vc fc ic : Nat) (w0 : World) (hs : x.ins.length < 1000000) (hC : RowM 13 InAt w0 ia x.ins) (u : Nat) :
    ∀ (a M : Nat) (m m' : Met) (l s : List Nat) (w : World), unmet x.ins.length (mark m a) = u → a < x.ins.length → Kids (nxE x) (nxE x a) (mark m a) l s m' → l.length < 1000000 → s.length < 1000000 → w0.heap.size ≤ M → Below w0.heap.size w0 w → BlM w M x.ins.length m →
    Calls Try.prog 27 #[.agg (CoV x va vc fa fc ia ic), .int .i64 a, .slice (some ⟨M, 0, none⟩) x.ins.length x.ins.length] w (WalkP x w M a l s m') := by
  induction u using Nat.strongRecOn with
  | _ u ih =>
    intro a M m m' l s w hu ha hK hl hls hM hold hbl
    obtain ⟨i3t, hti3, hz03, hz13, hz23⟩ := info_parts info3
    obtain ⟨r, hr⟩ := get_some (l := x.ins) (i := a) rfl ha
    have HIH := hid ih
    have HU := hid hu
    have HC := hid hC
    have HK := hid hK
    have HO := hid hold
    have HMM := hid hM
    have hMlt := hbl.lt
    have a0 : (0 : Int) ≤ (a : Int) := by omega
    have a1 : (a : Int) < (x.ins.length : Int) := by omega
    have n9 : (x.ins.length : Int) ≤ 9223372036854775807 := by omega
    have hx1 : ∀ i, (((w.setCell ⟨M, a, none⟩ (.bool true)).alloc (.cells (CoV x va vc fa fc ia ic) 30)).alloc (.cells #[.int .i64 (a : Int)] 3)).cell? ⟨w.heap.size, i, none⟩ = (CoV x va vc fa fc ia ic)[i]? := by
      have := boxA (w.setCell ⟨M, a, none⟩ (.bool true)) (CoV x va vc fa fc ia ic) 30 (.cells #[.int .i64 (a : Int)] 3)
      rw [show (w.setCell ⟨M, a, none⟩ (.bool true)).heap.size = w.heap.size by simp [World.setCell]] at this
      exact cells_at this
    have HST := hid (fun (W2 : World) (ve : Value) h1 h2 => RW.start (W2 := W2) (a := a) (cv := CoV x va vc fa fc ia ic) (E := edgesL x a) (ve := ve) hbl h1 h2)
    have HC1 : Hid (RowM 13 InAt (((w.setCell ⟨M, a, none⟩ (.bool true)).alloc (.cells (CoV x va vc fa fc ia ic) 30)).alloc (.cells #[.int .i64 (a : Int)] 3)) ia x.ins) := hid (hC.later in_stays (((hold.setCell (p := ⟨M, a, none⟩) hM _).alloc (by have := hold.size; simp [World.setCell]; omega) _).alloc (by have := hold.size; simp [World.setCell]; omega) _))
    have hcm := hbl.cell ha
    have hfm := hbl.soft a
    have HNX := hid (fun W hC => rnext8_g x a r va fa ia vc fc ic W hr (by omega) hC)
    have HLs := hid (show l.length < 1000000 ∧ s.length < 1000000 from ⟨hl, hls⟩)
    have HS := hid hs
    clear ih hu hK hl hls hM hold hbl hC hr hs
    go_enter Try.func27, Try.ntmps27
    go_wp2_with (go_at_call 21; go_must (refine (HNX.out _ HC1.out).mono ?_); rintro e w2 ⟨ve, rfl, hi2, ho2, hb2⟩; have HRW0 := hid (HST.out _ _ hb2.out ho2.out); obtain ⟨Ae, ce, rfl, hAe⟩ := hi2.out; clear hi2 ho2 hb2 hAe)
    obtain ⟨E, hE⟩ : ∃ E, edgesL x a = E := ⟨_, rfl⟩
    have HE := hid hE
    have hfew : E.length ≤ 2 := hE ▸ edges_few x a
    rw [hE] at HRW0 ⊢
    obtain ⟨q, hq⟩ : ∃ q, E.length = q := ⟨_, rfl⟩
    have HQ := hid hq
    rw [hq] at hfew HRW0 ⊢
    have HLq : Hid ((nxE x a).length = q) := hid (by rw [nxE_len, hE, hq])
    have HK0 : Hid (Kids (nxE x) ((nxE x a).drop 0) (mark m a) l s m' ∧ l = [] ++ l ∧ s = [] ++ s) := hid ⟨HK.out, rfl, rfl⟩
    clear hE hq HST HC1 HNX hx1 hcm hfm HK
    go_loopg [8, 9, 11] q (fun gk v8 v9 v11 wr => ∃ (j : Nat) (ll sl l2 s2 : List Nat) (mj : Met), j ≤ q ∧ gk = q - j ∧ v11 = .int .i64 j ∧ Hid (RW w M x.ins.length (CoV x va vc fa fc ia ic) E wr v8 v9 (.slice Ae q ce) ll (a :: sl) mj) ∧ Hid (Kids (nxE x) ((nxE x a).drop j) mj l2 s2 m' ∧ l = ll ++ l2 ∧ s = sl ++ s2) ∧ Hid (unmet x.ins.length mj ≤ u))
    case atStart => exact ⟨0, [], [], l, s, _, by omega, by omega, rfl, HRW0, HK0, hid (by have := HU.out; omega)⟩
    case round =>
      clear HRW0 HK0
      obtain ⟨j, ll, sl, l2, s2, mj, hj, rfl, rfl, HR, HKj, HUj⟩ := hrel
      have hx2 := cells_at HR.out.box
      obtain ⟨Al, cl, rfl⟩ := own_slice HR.out.lr
      obtain ⟨As, cs, rfl⟩ := own_slice HR.out.sr
      by_cases hjq : j < q
      · have hjq' : (j : Int) < (q : Int) := by omega
        have j0 : (0 : Int) ≤ (j : Int) := by omega
        have q9 : (q : Int) ≤ 9223372036854775807 := by omega
        obtain ⟨y, hy⟩ := get_some HQ.out hjq
        obtain ⟨k, rfl, hkn, hk⟩ := edges_get (x := x) (k := a) (i := j) (v := y) (by rw [HE.out]; exact hy)
        have k0 : (0 : Int) ≤ (k : Int) := by omega
        have hkn' : (k : Int) < (x.ins.length : Int) := by omega
        have hdrop : (nxE x a).drop j = k :: (nxE x a).drop (j + 1) := by
          obtain ⟨h1, h2⟩ := List.getElem?_eq_some_iff.1 hk
          rw [List.drop_eq_getElem_cons h1, h2]
        obtain ⟨be, hAe, hbe, hce⟩ := own_cell HR.out.er hy
        subst hAe
        have hcb := HR.out.bl.cell hkn
        obtain ⟨hkd, hel, hes⟩ := HKj.out
        rw [hdrop] at hkd
        have HKD := hid hkd
        have HEL := hid hel
        have HES := hid hes
        have HKN := hid hkn
        clear hy hk hdrop hbe hkd hel hes HKj
        cases hb : mj k
        case true =>
          rw [hb] at hcb
          have HK2 : Hid (Kids (nxE x) ((nxE x a).drop (j + 1)) mj l2 s2 m') := hid (by
            have := HKD.out
            cases this with
            | skip _ h => exact h
            | go h _ _ => rw [hb] at h; cases h)
          clear hb
          go_wp2_with (fail)
          go_roundg (q - (j + 1))
          case measure => omega
          case rel => exact ⟨j + 1, ll, sl, l2, s2, mj, by omega, rfl, rfl, HR, hid ⟨HK2.out, HEL.out, HES.out⟩, HUj⟩
        case false =>
          rw [hb] at hcb
          have hinv : ∃ l1 s1 l3 s3 m1, Kids (nxE x) (nxE x k) (mark mj k) l1 s1 m1 ∧ Kids (nxE x) ((nxE x a).drop (j + 1)) m1 l3 s3 m' ∧ l2 = l1 ++ k :: l3 ∧ s2 = k :: (s1 ++ s3) := by
            have := HKD.out
            cases this with
            | skip h _ => rw [hb] at h; cases h
            | go _ h1 h2 => exact ⟨_, _, _, _, _, h1, h2, rfl, rfl⟩
          obtain ⟨l1, s1, l3, s3, m1, hK1, hK3, rfl, rfl⟩ := hinv
          have hll := congrArg List.length HEL.out
          have hsl := congrArg List.length HES.out
          simp only [List.length_append, List.length_cons] at hll hsl
          have hlb : ll.length + (l1.length + 1) < 1000000 := by have := HLs.out; omega
          have hsb : sl.length + 1 + (s1.length + 1) < 1000001 := by have := HLs.out; omega
          have HRec := hid (fun (W : World) (h1 : Below w0.heap.size w0 W) (h2 : BlM W M x.ins.length mj) => HIH.out (unmet x.ins.length (mark mj k)) (Nat.lt_of_lt_of_le (unmet_mark HKN.out hb) HUj.out) k M mj m1 l1 s1 W rfl HKN.out hK1 (by omega) (by omega) HMM.out h1 h2)
          have HU1 : Hid (unmet x.ins.length m1 ≤ u) := hid (by
            have h1 := unmet_mark HKN.out hb
            have h2 : unmet x.ins.length m1 ≤ unmet x.ins.length (mark mj k) := unmet_le (fun y hy => by rw [hK1.met y, hy]; rfl)
            have := HUj.out
            omega)
          have HK3 := hid hK3
          clear hK1 hK3 hll hsl hb
          go_wp2_with (fail)
          have HRd := hid (HR.out.later (below_drew1 wr))
          have HRc := hid (HRec.out wr.drew (below_grown HO.out HMM.out HRd.out.old) HRd.out.bl)
          go_region_with (go_at_call 27; go_must (refine HRc.out.mono ?_); rintro e w5 ⟨v1, v2, rfl, h1, h2, h3, h4⟩; have HR5 := hid (HRd.out.call h4.out h3.out); have HA5 := hid h1.out; have HB5 := hid h2.out; clear h1 h2 h3 h4)
          all_goals
            obtain ⟨A1, hA1⟩ : ∃ A1, l1 ++ [k] = A1 := ⟨_, rfl⟩
            obtain ⟨B1, hB1⟩ : ∃ B1, k :: s1 = B1 := ⟨_, rfl⟩
            obtain ⟨q1, hq1⟩ : ∃ q1, A1.length = q1 := ⟨_, rfl⟩
            obtain ⟨q2, hq2⟩ : ∃ q2, B1.length = q2 := ⟨_, rfl⟩
            have hq1b : q1 ≤ l1.length + 1 := by rw [← hq1, ← hA1]; simp
            have hq2b : q2 ≤ s1.length + 1 := by rw [← hq2, ← hB1]; simp
            rw [hA1] at HA5
            rw [hB1] at HB5
            obtain ⟨g1, c1, rfl, hb1, hlt1, hcell1⟩ := own_cells HA5.out (by rw [← hA1]; simp)
            obtain ⟨g2, c2, rfl, hb2, hlt2, -⟩ := own_cells HB5.out (by rw [← hB1]; simp)
            have HQ1 := hid hq1
            have HQ2 := hid hq2
            have HA1 := hid hA1
            have HB1 := hid hB1
            have HCE := hid hcell1
            have HBN : Hid (∀ g, (Value.slice Al ll.length cl).ownBlock = some g → g < wr.heap.size) := hid (fun g q => (row_lt HRd.out.lr q).2)
            have G1 : True := trivial
            have G2 : True := trivial
            rw [hq1] at HA5 ⊢
            rw [hq2] at HB5 ⊢
            clear hq1 hq2 hA1 hB1 hcell1 hx2 hcb hce
            go_wp2_with (first
              | (at_builtin; have hh := G1; go_must (refine wpList_append_own_at _ rfl _ _ 27 rfl w.heap.size 3 i3t (.int .i64 0) 1 8 Try.underlying27 hti3 hz03 hz13 hz23 rfl (by decide) (.slice Al ll.length cl) ll.length (natV ll) rfl HR5.out.lr ⟨g1, 0, none⟩ q1 c1 (natV A1) rfl (by rw [← HQ1.out]; exact natV_len A1) HCE.out (natV_one A1) (by unfold maxLen; omega) (by omega) HR5.out.old.size ?_); intro v7 w7 hown7 hgrow7 hnil7 hblk7; clear G1
                 have HR7 := hid (HR5.out.left (A := A1) hown7 (by rw [List.length_append, HQ1.out]) hgrow7 hblk7)
                 have HB7 : Hid (OwnN w7 wr.drew.heap.size (.slice (some ⟨g2, 0, none⟩) q2 c2) B1) := hid (row_at HB5.out (fun g q => hgrow7.block g (row_lt HB5.out q).2 (fun e => by have h1 := HBN.out g e.symm; have h2 := (row_lt HB5.out q).1; exact absurd h1 (Nat.not_lt.2 h2))))
                 obtain ⟨A7, c7, rfl⟩ := own_slice hown7
                 clear hown7 hgrow7 hnil7 hblk7)
              | (at_builtin; have hh := G2; go_must (refine wpList_append_own_at _ rfl _ _ 27 rfl w.heap.size 3 i3t (.int .i64 0) 1 8 Try.underlying27 hti3 hz03 hz13 hz23 rfl (by decide) (.slice As (sl.length + 1) cs) (sl.length + 1) (natV (a :: sl)) rfl HR7.out.sr ⟨g2, 0, none⟩ q2 c2 (natV B1) rfl (by rw [← HQ2.out]; exact natV_len B1) (HB7.out.cells rfl) (natV_one B1) (by unfold maxLen; omega) (by omega) HR7.out.old.size ?_); intro v8 w8 hown8 hgrow8 hnil8 hblk8; clear G2
                 have HR8 := hid (HR7.out.seen (A := B1) hown8 (by rw [List.length_append, HQ2.out]; rfl) hgrow8 hblk8)
                 clear hown8 hgrow8 hnil8 hblk8))
            go_roundg (q - (j + 1))
            case measure => omega
            case rel => exact ⟨j + 1, ll ++ A1, sl ++ B1, l3, s3, m1, by omega, rfl, rfl, HR8, hid ⟨HK3.out, by rw [HEL.out, ← HA1.out]; simp, by rw [HES.out, ← HB1.out]; simp⟩, HU1⟩
      · have hjq' : ¬ (j : Int) < (q : Int) := by omega
        obtain rfl : j = q := by omega
        obtain ⟨hkd, hel, hes⟩ := HKj.out
        rw [List.drop_eq_nil_of_le (by have := HLq.out; omega)] at hkd
        have hfin : l = ll ∧ s = sl ∧ m' = mj := by
          cases hkd
          exact ⟨by simpa using hel, by simpa using hes, rfl⟩
        have HF := hid hfin
        have hlb : ll.length < 1000000 := by have := HLs.out; rw [hfin.1] at this; exact this.1
        clear hfin hel hes hkd HKj hx2
        go_wp2_with (at_builtin; go_must (refine wpList_append_own_at _ rfl _ _ 27 rfl w.heap.size 3 i3t (.int .i64 0) 1 8 Try.underlying27 hti3 hz03 hz13 hz23 rfl (by decide) (.slice Al ll.length cl) ll.length (natV ll) rfl (HR.out.lr.alloc _) ⟨wr.heap.size, 0, none⟩ 1 1 [.int .i64 a] rfl rfl (one_at _ _ _ rfl) (by intro u hu; simp at hu; subst hu; rfl) (by unfold maxLen; omega) (by omega) (by have := HR.out.old.size; simp; omega) ?_); intro v7 w7 hown7 hgrow7 hnil7 hblk7
                     have HR7 := hid ((HR.out.later (below1 _ _)).left (A := [a]) hown7 (by simp) hgrow7 hblk7)
                     clear hown7 hgrow7 hnil7 hblk7)
        go_ret2
        exact ⟨_, _, rfl, hid (by rw [HF.out.1]; exact HR7.out.lr), hid (by rw [HF.out.2.1]; exact HR7.out.sr), hid (by rw [HF.out.2.2]; exact HR7.out.bl), hid HR7.out.old⟩
end Go.Proofs.Ytbmjhkimeeahhaa
