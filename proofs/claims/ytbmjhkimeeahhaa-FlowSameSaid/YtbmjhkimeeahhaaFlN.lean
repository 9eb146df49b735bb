/- A walk as deep as it can go, where an iterator gives what it meets. Condition: fewer than a million instructions. -/
import Derived.Test.YtbmjhkimeeahhaaFlM
import Derived.Test.YtbmjhkimeeahhaaFlJ
namespace Go.Proofs.Ytbmjhkimeeahhaa
open Go.RowKit Go.Maps Go.Shelf
set_option linter.unusedVariables false
set_option linter.unusedSimpArgs false
attribute [local go_sem] Oper.semAt_some
def YieldPost (J Jx : List Nat → World → Prop) (st : List Nat) (e : Ending) (W' : World) : Prop := (∃ v, e = .returned v) ∧ (J st W' ∨ ∃ pre, pre <+: st ∧ Jx pre W')
abbrev encN (k : Nat) : Array Value := #[.int .i64 (k : Int)]
theorem low_cal (B0 N0 l Nb : Nat) (J : List Nat → World → Prop) (hJ : ∀ pre A B, J pre A → Below B0 A B → J pre B) (h1 : N0 ≤ Nb) (h2 : Nb < B0) (h3 : N0 ≤ l) (h4 : l < B0) : Cal B0 N0 (fun s _ W => J s W ∧ B0 ≤ W.heap.size) (fun _ k => k = Nb ∨ k = l) :=
  ⟨fun {s l A B} hj hb hk => ⟨⟨hJ _ _ _ hj.1 hb, Nat.le_trans hj.2 hb.size⟩, fun k => Iff.rfl⟩, fun {s l A k} hj hf => by have := hj.2; omega⟩
theorem low_cals {l Nb : Nat} {A B : World} (h : LowKept l Nb A B) : CalS (fun _ k => k = Nb ∨ k = l) A B :=
  ⟨h.os, h.tape, h.output, h.size, fun k hk hf => h.block k hk (fun e => hf (.inl e)) (fun e => hf (.inr e)), fun k hf => .inl hf⟩
set_option maxRecDepth 100000 in
set_option maxHeartbeats 8000000 in
theorem walk_y (md : Nat) (hmd : 1 ≤ md) (x : CoD) (va fa ia : Option Addr) (vc fc ic : Nat) (w0 w : World) (lo Nb a : Nat) (l s : List Nat) (m2 : Met) (J Jx : List Nat → World → Prop) (hs : x.ins.length < 1000000) (hC : RowM 13 InAt w0 ia x.ins)
    (hN1 : w0.heap.size ≤ Nb) (hN2 : Nb < w.heap.size) (hN3 : w0.heap.size ≤ lo) (hN4 : lo < w.heap.size) (ha : a < x.ins.length) (hold : Below w0.heap.size w0 w) (hK : Kids (nxE x) [a] (fun _ => false) l s m2) (hl : l.length < 1000000)
    (hJ : ∀ pre A B, J pre A → Below w.heap.size A B → J pre B)
    (hY : ∀ pre k W1, J pre W1 → pre ++ [k] <+: s → w.heap.size ≤ W1.heap.size → YieldAt Fence.wide (md - 1) Try.prog lo (encN k) W1 fun e W' => (e = .returned (.bool true) ∧ J (pre ++ [k]) W' ∧ LowKept lo Nb W1 W') ∨ (e = .returned (.bool false) ∧ Jx (pre ++ [k]) W' ∧ W1.heap.size ≤ W'.heap.size))
    (h0 : J [] w) :
    Calls Try.prog 29 #[.agg (CoV x va vc fa fc ia ic), .int .i64 a, .func (.yield lo) #[] #[], .func (.func 30) #[] #[]] w (YieldPost J Jx s) := by
  have hj := h0
  have HB := hid (below1 w (.cells (CoV x va vc fa fc ia ic) 30))
  have HX := hid (heap_alloc_new w (.cells (CoV x va vc fa fc ia ic) 30))
  obtain ⟨i0t, hti, hz0, hz1, hz2⟩ := info_parts info4
  obtain ⟨i7t, hti7, hz07, hz17, hz27⟩ := info_parts info79
  obtain ⟨n, hn⟩ : ∃ n, x.ins.length = n := ⟨_, rfl⟩
  have HCal := hid (low_cal w.heap.size w0.heap.size lo Nb J hJ hN1 hN2 hN3 hN4)
  have HY0 := hid hY
  have HTH : Hid (∀ (k : Int) (r : Bool) (W : World), inN n k = r → Calls Try.prog 26 #[.agg #[.string x.nm, .int .i64 x.pr, .slice va x.vs.length vc, .bool x.rt.t.p, .string x.rt.t.name, .int .i64 x.rt.cls, .slice fa x.fr.length fc, .slice ia n ic], .int .i64 k] W fun e w' => e = .returned (.bool r) ∧ Hid (Below W.heap.size W w')) :=
    hid (fun k r W hr => by rw [← hn]; exact there_f x va fa ia vc fc ic k r W (by rw [hn]; exact hr))
  have hx := fun i => cells_at HX.out i
  have hin : inN n (a : Int) = true := by simp [inN]; omega
  have HIN := hid hin
  have b2 : i0t.bytes * n ≤ 281474976710656 := by rw [hz2]; omega
  have b3 : n ≤ maxLen := by unfold maxLen; omega
  have HM := hid b2
  have HM3 := hid b3
  have HN := hid hn
  have HS := hid hs
  have HJ := hid hj
  have HK := hid hK
  have HO := hid hold
  have HC := hid hC
  rw [hn] at ha
  clear hC hs b2 b3 hj hK hold hin hJ hY h0
  go_enter Try.func29, Try.ntmps29
  go_wp2
  go_step3
  go_wp2_with (first
    | (go_at_call 26; refine (HTH.out _ _ _ HIN.out).mono ?_; rintro e w1 ⟨rfl, hb1⟩; have HB1 := hid (after HB.out hb1.out HB.out.size); have HX1 := hid (lay hb1.out HX.out); have hx1 := cells_at HX1.out; clear hx hb1)
    | (at_make; refine wpList_make_full _ rfl _ _ 34 rfl w1.heap.size 4 i0t (.bool false) 1 Try.underlying34 hti hz0 hz1 .i64 .i64 (n : Int) (n : Int) n rfl rfl rfl rfl HM.out HM3.out (Nat.le_refl _) ?_; intro w2 hown hgrow
       have HB2 := hid ((Below.refl w1.heap.size w1).grown hgrow (Nat.le_refl _) (by rintro k e; cases e))
       have HBL := hid (BlM.made hown)
       clear hown hgrow))
  go_step3
  go_wp2
  obtain ⟨s1, rfl, hrun0⟩ := HK.out.start
  have hsz1 : w.heap.size + 1 ≤ w1.heap.size := by have := HB1.out.size; have := HX1.out; have := (Array.getElem?_eq_some_iff.1 this).1; omega
  have HO0 : Hid (OW w.heap.size w0.heap.size w.heap.size w1.heap.size n w0 (fun s _ W => J s W ∧ w.heap.size ≤ W.heap.size) (fun _ k => k = Nb ∨ k = lo) (CoV x va vc fa fc ia ic) (nxE x) m2 l (a :: s1) w2 (.slice none 0 0) a [] (fun _ => false) [] [] l s1) := by
    have hb02 : Below w.heap.size w w2 := after HB1.out HB2.out HB1.out.size
    obtain ⟨hj, hfp⟩ := HCal.out.keep (s := []) (l := []) ⟨HJ.out, Nat.le_refl _⟩ hb02 (fun k hk _ => hb02.block k hk)
    refine hid ⟨ha, rfl, ⟨hj, HO.out.trans (hb02.mono HO.out.size), lay HB2.out HX1.out, HBL.out, World.ownsRow_nil _ _ _ _, fun e he => (by cases he), fun k hf => ?_, ⟨Nat.le_refl _, by omega, HO.out.size, hb02.size⟩, fun e he => (by cases he)⟩, hrun0, rfl, rfl⟩
    have := (HCal.out.lt (s := []) (l := []) ⟨HJ.out, Nat.le_refl _⟩ ((hfp k).1 hf)).2
    exact ⟨by omega, by omega, by simp [Value.ownBlock]⟩
  have HLn : Hid (l.length < 1000000) := hid hl
  clear hrun0 hx1 HJ HK hl
  go_loopg [9, 10] s1.length (fun gk v9 v10 wr => ∃ (k : Nat) (S : List StE) (m : Met) (seen left l1 s2 : List Nat), gk = s2.length ∧ v10 = .int .i64 k ∧ Hid (OW w.heap.size w0.heap.size w.heap.size w1.heap.size n w0 (fun s _ W => J s W ∧ w.heap.size ≤ W.heap.size) (fun _ k => k = Nb ∨ k = lo) (CoV x va vc fa fc ia ic) (nxE x) m2 l (a :: s1) wr v9 k S m seen left l1 s2))
  case atStart => exact ⟨a, [], _, [], [], l, s1, rfl, rfl, HO0⟩
  case round =>
    clear HO0
    obtain ⟨k, S, m, seen, left, l1, s2, rfl, rfl, hOW⟩ := hrel
    have hWS := hOW.out.ws
    have hkn := hOW.out.kn
    obtain ⟨r, hr⟩ := get_some HN.out hkn
    have hW1 := hWS.met HCal.out k
    have k0 : (0 : Int) ≤ (k : Int) := by omega
    have k1 : (k : Int) < (n : Int) := by omega
    have n9 : (n : Int) ≤ 9223372036854775807 := by have := HS.out; have := HN.out; omega
    have hcm := hWS.bl.cell hkn
    have hfm := hWS.bl.soft k
    rw [hOW.out.fr] at hcm
    obtain ⟨AS, cS, rfl⟩ := own79 hWS.row
    have hx2 := fun i => cells_at hWS.box i
    obtain ⟨W1, hw1⟩ : ∃ W1, wr.setCell ⟨w1.heap.size, k, none⟩ (.bool true) = W1 := ⟨_, rfl⟩
    rw [hw1] at hW1
    have HW1 := hid hW1
    have HOW := hid hOW.out
    have HR := hid hr
    have HKN := hid hkn
    have hSl := HOW.out.run.len
    have hlt := congrArg List.length HOW.out.el
    have hSn : S.length < 1000000 := by have := HLn.out; simp [runS] at hSl hlt; omega
    have HW1' := hid hw1
    clear hWS hW1 hOW hr hSl hlt hkn
    have hk6 : (k : Int) < 1000000 := by have := HS.out; have := HN.out; omega
    have hyy := HY0.out seen k W1 HW1.out.j.1 ⟨s2, by rw [HOW.out.es]; simp⟩ HW1.out.j.2
    obtain ⟨fn, tmps, assign, body, hy, hR⟩ := hyy
    go_upto_region 6 with (fail)
    refine (wpIn_wide (n := md)).1 ?_
    gi_wp2
    refine hR.mono ?_
    rintro e W3 (⟨rfl, hj3, hk3⟩ | ⟨rfl, hjx3, hsz3⟩)
    case inr =>
      have HJX := hid hjx3
      have HPre : Hid (seen ++ [k] <+: a :: s1) := hid ⟨s2, by rw [HOW.out.es]; simp⟩
      clear hjx3 hx2 hcm hfm hw1
      gi_wp2
      go_wp2
      rw [Exit.noGoto_ret]
      go_end0
      exact ⟨⟨_, rfl⟩, .inr ⟨_, HPre.out, HJX.out⟩⟩
    have HW3 := hid (HW1.out.call (seen' := seen ++ [k]) (left' := left) HCal.out (low_cals hk3) ⟨hj3, Nat.le_trans HW1.out.j.2 hk3.size⟩)
    clear hj3 hk3 hx2 hcm hfm hw1
    gi_wp2
    obtain ⟨bi, oi, rfl, hbi, ao, ac, mo, mc, hci, him⟩ := (HC.out.later in_stays HW3.out.old).2 k r HR.out
    have hx3 := fun i => cells_at HW3.out.box i
    have d0 : W3.cell? ⟨bi, oi + k * 13, none⟩ = some (.int .i64 r.op) := hci 0 _ rfl
    have d1 : W3.cell? ⟨bi, oi + k * 13 + 1, none⟩ = some (.int .i64 r.d) := hci 1 _ rfl
    have d2 : W3.cell? ⟨bi, oi + k * 13 + 2, none⟩ = some (.int .i64 r.a) := hci 2 _ rfl
    have d3 : W3.cell? ⟨bi, oi + k * 13 + 3, none⟩ = some (.int .i64 r.b) := hci 3 _ rfl
    have d4 : W3.cell? ⟨bi, oi + k * 13 + 4, none⟩ = some (.int .i64 r.f) := hci 4 _ rfl
    have d5 : W3.cell? ⟨bi, oi + k * 13 + 5, none⟩ = some (.int .i64 r.n) := hci 5 _ rfl
    have d6 : W3.cell? ⟨bi, oi + k * 13 + 6, none⟩ = some (.string r.sg) := hci 6 _ rfl
    have d7 : W3.cell? ⟨bi, oi + k * 13 + 7, none⟩ = some (.slice ao r.xs.length ac) := hci 7 _ rfl
    have d8 : W3.cell? ⟨bi, oi + k * 13 + 8, none⟩ = some (.slice mo r.ms.length mc) := hci 8 _ rfl
    have d9 : W3.cell? ⟨bi, oi + k * 13 + 9, none⟩ = some (.int .i64 r.tt) := hci 9 _ rfl
    have d10 : W3.cell? ⟨bi, oi + k * 13 + 10, none⟩ = some (.int .i64 r.el) := hci 10 _ rfl
    have d11 : W3.cell? ⟨bi, oi + k * 13 + 11, none⟩ = some (.int .i64 r.l) := hci 11 _ rfl
    have d12 : W3.cell? ⟨bi, oi + k * 13 + 12, none⟩ = some (.int .i64 r.c) := hci 12 _ rfl
    clear hci him hbi
    obtain ⟨L, hL⟩ : ∃ L, nextL r (k : Int) = L := ⟨_, rfl⟩
    have HNC := hid (fun W => by have := next_c r (k : Int) k0 hk6 ao mo ac mc W; rwa [hL] at this)
    have HL := hid hL
    clear hL
    have G1 : True := trivial
    go_wp2_with (first
      | (go_at_call 37; go_must (refine (HNC.out _).mono ?_); rintro e w5 ⟨v5, rfl, hne5, hb5⟩; have HW5 := hid (HW3.out.later HCal.out hb5.out); obtain ⟨A5, rfl, hed5⟩ := HW3.out.newEd HCal.out hb5.out hne5.out; have HE5 := hid (hed5.later HCal.out HW5.out (below1 w5 (.cells #[.int .i64 k, .slice A5 L.length L.length] 79))); clear hne5 hb5 hed5)
      | (at_builtin; have hh := G1; clear G1; go_must (refine wpList_append_own_at _ rfl _ _ 77 rfl w.heap.size 79 i7t (.agg #[.int .i64 0, .slice none 0 0]) 2 32 Try.underlying77 hti7 hz07 hz17 hz27 rfl (by decide) _ S.length (S.reverse.flatMap stF) rfl (HW5.out.row.alloc _) ⟨w5.heap.size, 0, none⟩ 1 1 [.int .i64 k, .slice A5 L.length L.length] rfl rfl (new_st _ _ _ _ rfl) (by intro u hu; simp at hu; rcases hu with rfl | rfl <;> rfl) (by unfold maxLen; omega) (by omega) (by have := HW5.out.lo; simp; omega) ?_); intro v9 w9 hown9 hgrow9 hnil9 hblk9
         have HP := hid (WS.push (e := ⟨k, A5, L⟩) HCal.out (HW5.out.later HCal.out (below1 _ _)) hown9 hgrow9 hblk9 HE5.out HKN.out)
         obtain ⟨A9, c9, rfl⟩ := own79 hown9
         clear hown9 hgrow9 hnil9 hblk9))
    have HI0 : Hid (IW w.heap.size w0.heap.size w.heap.size w1.heap.size n w0 (fun s _ W => J s W ∧ w.heap.size ≤ W.heap.size) (fun _ k => k = Nb ∨ k = lo) (CoV x va vc fa fc (some ⟨bi, oi, none⟩) ic) (nxE x) m2 l (a :: s1) w9 (.slice A9 (S.length + 1) c9) (⟨k, A5, L⟩ :: S) (mark m k) (seen ++ [k]) left l1 s2) := by
      have hnx : toN n L = nxE x k := by have := nxE_of HR.out; rwa [HN.out, HL.out] at this
      exact hid ⟨HP.out, by show Run (nxE x) ((k, toN n L) :: runS n S) _ _ _ _; rw [hnx]; exact HOW.out.run, HOW.out.el, by rw [HOW.out.es]; simp⟩
    clear HP HE5 HW5 HNC HL HR HOW HW1 HW1' HW3 hx3 d0 d1 d2 d3 d4 d5 d6 d7 d8 d9 d10 d11 d12 hSn
    go_loopg [9] (meas (⟨k, A5, L⟩ :: S)) (fun gj v9 wi => ∃ (S' : List StE) (m' : Met) (seen' left' l3 s3 : List Nat), gj = meas S' ∧ s3.length ≤ s2.length ∧ Hid (IW w.heap.size w0.heap.size w.heap.size w1.heap.size n w0 (fun s _ W => J s W ∧ w.heap.size ≤ W.heap.size) (fun _ k => k = Nb ∨ k = lo) (CoV x va vc fa fc (some ⟨bi, oi, none⟩) ic) (nxE x) m2 l (a :: s1) wi v9 S' m' seen' left' l3 s3))
    case atStart => exact ⟨_, _, _, _, _, _, rfl, Nat.le_refl _, HI0⟩
    case round =>
      clear HI0
      obtain ⟨S', m', seen', left', l3, s3, rfl, hs3, hI⟩ := hrel
      have hx2 := fun i => cells_at hI.out.ws.box i
      cases S' with
      | nil =>
        obtain ⟨AS', cS', rfl⟩ : ∃ A c, _ = Value.slice A 0 c := own79 hI.out.ws.row
        have hJ : J (a :: s1) wr := by
          have h1 := hI.out.run
          have h2 := hI.out.es
          cases h1
          rw [List.append_nil] at h2
          rw [h2]
          exact hI.out.ws.j.1
        have HJ := hid hJ
        clear hJ hI
        go_wp2
        rw [Exit.noGoto_ret]
        go_end0
        exact ⟨⟨_, rfl⟩, .inl HJ.out⟩
      | cons e S' =>
        obtain ⟨k', A', L'⟩ := e
        obtain ⟨g, cap, rfl, hct, hce, hfz, hcap⟩ := hI.out.ws.top
        have HI := hid hI.out
        obtain ⟨q, hq⟩ : ∃ q, S'.length = q := ⟨_, rfl⟩
        have HQ := hid hq
        have hSl := HI.out.run.len
        have hlt := congrArg List.length HI.out.el
        have hqn : q < 1000000 := by have := HLn.out; simp [runS] at hSl hlt; omega
        have q0 : (0 : Int) ≤ (q : Int) := by omega
        simp only [hq] at hct hce hfz hcap ⊢
        clear hI hq hSl hlt
        cases L' with
        | nil =>
          simp only [List.length_nil] at hce
          obtain ⟨l4, rfl, hrun4⟩ := HI.out.run.leave
          have HRun := hid hrun4
          clear hrun4
          go_wp2_with (go_at_call 30; go_must (refine (rest_f (k' : Int) _).mono ?_); rintro e w6 ⟨⟨v6, rfl⟩, rfl⟩)
          go_roundg (meas S')
          case measure => simp [meas]
          case rel =>
            refine ⟨S', m', seen', left' ++ [k'], l4, s3, rfl, hs3, ?_⟩
            have h8 := HI.out.ws.pop HCal.out
            rw [HQ.out] at h8
            exact hid ⟨{ h8 with j := h8.j }, HRun.out, by rw [HI.out.el]; simp, HI.out.es⟩
        | cons y L' =>
          obtain ⟨be, oe, rfl, hcy⟩ := (HI.out.ws.ed _ List.mem_cons_self).first
          obtain ⟨p, hp⟩ : ∃ p, L'.length = p := ⟨_, rfl⟩
          have HPp := hid hp
          simp only [List.length_cons, hp] at hce
          obtain ⟨A2, hA2, hsl⟩ := tail_run be oe p
          have HI2 := hid (HI.out.ws.edge HCal.out (y := y) (((HI.out.ws.ed _ List.mem_cons_self)).rest A2 (fun h => hA2 (fun e => h (List.length_eq_zero_iff.1 (HPp.out.trans e))))))
          have p0 : (0 : Int) ≤ (p : Int) := by omega
          have p1 : (0 : Int) < (p : Int) + 1 := by omega
          have pe : ((p : Int) + 1 == 0) = false := by simp; omega
          clear hp hA2
          go_upto_region 15 with (fail)
          have hI2 := HI2.out
          simp only [HQ.out, HPp.out] at hI2
          obtain ⟨W2, hw2⟩ : ∃ W2, wr.setCell ⟨g, q * 2 + 1, none⟩ (.slice A2 p p) = W2 := ⟨_, rfl⟩
          rw [hw2] at hI2 ⊢
          have hx4 := fun i => cells_at hI2.box i
          have HI3 := hid hI2
          have HRun := hid HI.out.run
          have HEL := hid HI.out.el
          have HES := hid HI.out.es
          clear hI2 hw2 hsl HI2 HI hx2 hct hce hcy hfz hcap pe p1 p0 q0
          cases hy : inN n y
          case false =>
            have HY := hid hy
            clear hy
            go_wp2_with (go_at_call 26; go_must (refine (HTH.out _ _ _ HY.out).mono ?_); rintro e w7 ⟨rfl, hb7⟩; have HI4 := hid (HI3.out.later HCal.out hb7.out); clear hb7)
            go_roundg (meas (⟨k', A2, L'⟩ :: S'))
            case measure => simp [meas]
            case rel => exact ⟨⟨k', A2, L'⟩ :: S', m', seen', left', l3, s3, rfl, hs3, hid ⟨HI4.out, by have h1 := HRun.out; unfold runS at h1 ⊢; simp only [List.map_cons, toN_out HY.out] at h1; exact h1, HEL.out, HES.out⟩⟩
          case true =>
            obtain ⟨kk, rfl⟩ : ∃ kk : Nat, y = (kk : Int) := ⟨y.toNat, by simp [inN] at hy; omega⟩
            have hkk : kk < n := by simp [inN] at hy; omega
            have hkk' : (kk : Int) < (n : Int) := by omega
            have kk0 : (0 : Int) ≤ (kk : Int) := by omega
            have n9 : (n : Int) ≤ 9223372036854775807 := by have := HS.out; have := HN.out; omega
            have HY := hid hy
            have HRun2 : Hid (Run (nxE x) ((k', kk :: toN n L') :: runS n S') m' l3 s3 m2) := hid (by have h1 := HRun.out; unfold runS at h1 ⊢; simp only [List.map_cons, toN_in HY.out] at h1; exact h1)
            clear hy HRun
            cases hmk : m' kk
            case true =>
              have HMK := hid hmk
              have HRun3 := hid (HRun2.out.skip hmk)
              clear hmk
              go_wp2_with (go_at_call 26; go_must (refine (HTH.out _ _ _ HY.out).mono ?_); rintro e w7 ⟨rfl, hb7⟩; have HI4 := hid (HI3.out.later HCal.out hb7.out); have hcm := HI4.out.bl.cell hkk; rw [HMK.out] at hcm; clear hb7)
              go_roundg (meas (⟨k', A2, L'⟩ :: S'))
              case measure => simp [meas]
              case rel => exact ⟨⟨k', A2, L'⟩ :: S', m', seen', left', l3, s3, rfl, hs3, hid ⟨HI4.out, HRun3.out, HEL.out, HES.out⟩⟩
            case false =>
              have HMK := hid hmk
              obtain ⟨s4, rfl, hrun4⟩ := HRun2.out.visit hmk
              have HRun3 := hid hrun4
              have hs4 : s4.length < s2.length := by simp at hs3; omega
              clear hmk hrun4
              go_wp2_with (go_at_call 26; go_must (refine (HTH.out _ _ _ HY.out).mono ?_); rintro e w7 ⟨rfl, hb7⟩; have HI4 := hid (HI3.out.later HCal.out hb7.out); have hcm := HI4.out.bl.cell hkk; rw [HMK.out] at hcm; clear hb7)
              go_roundg s4.length
              case measure => exact hs4
              case rel => exact ⟨kk, ⟨k', A2, L'⟩ :: S', m', seen', left', l3, s4, rfl, rfl, hid ⟨hkk, HMK.out, HI4.out, HRun3.out, HEL.out, HES.out⟩⟩
end Go.Proofs.Ytbmjhkimeeahhaa
