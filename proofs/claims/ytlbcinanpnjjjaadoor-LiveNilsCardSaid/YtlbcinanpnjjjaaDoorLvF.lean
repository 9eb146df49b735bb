/- One step: what is asked behind an instruction, and ahead of it, is asked again. Conditions: fewer than a million instructions, what is written is a variable. -/
import Derived.Test.YtlbcinanpnjjjaaDoorLvE
import Derived.StillTailTactics
namespace Go.Proofs.YtlbcinanpnjjjaaDoor
open Go.RowKit Go.Maps
set_option linter.unusedVariables false
set_option linter.unusedSimpArgs false
/-- Behind i, joined with what is ahead of the first j of L. -/
def joinL (mA mB : Nat → Nat → Bool) (n i : Nat) (L : List Int) (j : Nat) : Nat → Bool := fun v => mB i v || (L.take j).any (fun y => inN n y && mA y.toNat v)
theorem joinL_all {x : CoD} {mA mB : Nat → Nat → Bool} {n i m : Nat} {r : InD} (hn : n = x.ins.length) (hr : x.ins[i]? = some r) (hm : (nextL r i).length = m) : joinL mA mB n i (nextL r i) m = joinB x mA mB i := by
  funext v
  unfold joinL joinB nxE edgesL
  rw [hr, List.take_of_length_le (by omega), List.any_map, List.any_filter, ← hn]
  rfl
theorem joinL_zero (mA mB : Nat → Nat → Bool) (n i : Nat) (L : List Int) : joinL mA mB n i L 0 = mB i := by
  funext v; simp [joinL]
theorem joinL_out {mA mB : Nat → Nat → Bool} {n i j : Nat} {L : List Int} {y : Int} (hy : L[j]? = some y) (h : inN n y = false) : joinL mA mB n i L (j + 1) = joinL mA mB n i L j := by
  funext v
  unfold joinL
  rw [List.take_add_one, hy, List.any_append]
  simp [h]
theorem joinL_in {mA mB : Nat → Nat → Bool} {n i j k : Nat} {L : List Int} (hy : L[j]? = some (k : Int)) (h : k < n) : joinL mA mB n i L (j + 1) = fun v => joinL mA mB n i L j v || mA k v := by
  funext v
  unfold joinL
  rw [List.take_add_one, hy, List.any_append]
  simp [inN_t (n := n) (v := (k : Int)) (by omega) (by omega), Bool.or_assoc]
/-- Did it change? -/
def Chg (c : Bool) (f m : Nat → Bool) (K : Nat) : Prop := c = true ↔ ∃ v, v < K ∧ f v = true ∧ m v = false
theorem chg_step {c c2 : Bool} {f o m : Nat → Bool} {K : Nat} (h : Chg c f m K) (hm : ∀ v, v < K → m v = true → f v = true) (h2 : NewIs c2 f o K) : Chg (if c2 then true else c) (fun v => f v || o v) m K := by
  unfold Chg NewIs at *
  cases hc2 : c2
  · rw [hc2] at h2
    have hno : ∀ v, v < K → o v = true → f v = true := fun v hv ho => by
      cases hf : f v
      · exact absurd (h2.2 ⟨v, hv, ho, hf⟩) (by decide)
      · rfl
    simp only [Bool.false_eq_true, if_false]
    rw [h]
    constructor
    · rintro ⟨v, h1, h3, h4⟩; exact ⟨v, h1, by simp [h3], h4⟩
    · rintro ⟨v, h1, h3, h4⟩
      refine ⟨v, h1, ?_, h4⟩
      simp only [Bool.or_eq_true] at h3
      exact h3.elim id (hno v h1)
  · rw [hc2] at h2
    obtain ⟨v, h1, h3, h4⟩ := h2.1 rfl
    simp only [if_true, true_iff]
    refine ⟨v, h1, by simp [h3], ?_⟩
    cases hmv : m v
    · rfl
    · rw [hm v h1 hmv] at h4; cases h4
theorem BitM.notInts {W : World} {g nw b o : Nat} {m : Nat → Bool} {y : Int} (h : BitM W g nw m) (hc : W.cell? ⟨b, o, none⟩ = some (.int .i64 y)) : b ≠ g := by
  rintro rfl
  obtain ⟨cs, h1, h2, h3⟩ := h
  rw [cells_at h1 o] at hc
  have hl := (Array.getElem?_eq_some_iff.1 hc).1
  obtain ⟨x, q1, -⟩ := h3 o (by omega)
  rw [q1] at hc
  cases hc
theorem ints_kept {W W' : World} {g nw : Nat} {m : Nat → Bool} {A : Option Addr} {L : List Int} (h : IntsM W A L) (hb : BitM W g nw m) (hk : Kept g W W') : IntsM W' A L := by
  refine ⟨h.1, fun j y hy => ?_⟩
  obtain ⟨b, o, e, hl, hc⟩ := h.2 j y hy
  refine ⟨b, o, e, by rw [hk.size]; exact hl, ?_⟩
  exact (World.cell?_of_block (a := ⟨b, o + j * 1, none⟩) (hk.block b (hb.notInts hc))).trans hc
theorem new_some (m o : Nat → Bool) (K : Nat) : ∃ c, NewIs c m o K := by
  classical
  exact ⟨decide (∃ v, v < K ∧ o v = true ∧ m v = false), by simp [NewIs]⟩
theorem join_g {g g2 nw : Nat} {m o : Nat → Bool} {c : Bool} {w : World} (h : BitM w g nw m) (h2 : BitM w g2 nw o) (hg : g2 ≠ g) (hn : nw < 1000000) (hc : NewIs c m o (64 * nw)) :
    Calls Tryd.prog 44 #[.slice (some ⟨g, 0, none⟩) nw nw, .slice (some ⟨g2, 0, none⟩) nw nw] w fun e w' => e = .returned (.bool c) ∧ Hid (BitM w' g nw (fun v => m v || o v)) ∧ Hid (Kept g w w') :=
  (join_f g g2 nw m o w h h2 hg hn).mono fun e w' ⟨c', he, hb, hk, hn'⟩ => by
    have : c' = c := Bool.eq_iff_iff.2 (hn'.out.trans hc.symm)
    exact ⟨this ▸ he, hb, hk⟩
/-- What a step leaves. -/
def AskP (w : World) (x : CoD) (va fa ia : Option Addr) (vc fc ic n nw P TA TB : Nat) (gA gB : Nat → Nat) (mA mB : Nat → Nat → Bool) (i : Nat) (e : Ending) (w' : World) : Prop :=
  ∃ c : Bool, e = .returned (.bool c) ∧ Hid ((c = false ∧ LT w x va fa ia vc fc ic n nw P TA TB gA gB mA mB w' ∧ Done x (64 * nw) mA mB i) ∨
    (c = true ∧ LT w x va fa ia vc fc ic n nw P TA TB gA gB (upd mA i (fun v => rdV x i v || (joinB x mA mB i v && !wrV x i v))) (upd mB i (joinB x mA mB i)) w' ∧ ∃ v, v < 64 * nw ∧ mB i v = false ∧ joinB x mA mB i v = true))
section
variable {w W : World} {x : CoD} {va fa ia : Option Addr} {vc fc ic n nw P TA TB : Nat} {gA gB : Nat → Nat} {mA mB : Nat → Nat → Bool}
set_option maxRecDepth 100000 in
set_option maxHeartbeats 8000000 in
theorem ask_f (i : Nat) (r : InD) (h : LT w x va fa ia vc fc ic n nw P TA TB gA gB mA mB W) (hL : Lv x n (64 * nw) mA mB) (hr : x.ins[i]? = some r) (hC : RowM 13 InAt w ia x.ins) (hx : x.ins.length = n) (hi : i < n)
    (hd : wrB r.op = true → inN x.vs.length r.d = true) (hw : x.vs.length ≤ 64 * nw) (hn : nw < 1000000) (hn2 : n < 1000000) :
    Calls Tryd.prog 26 #[.pointer (some ⟨P, 0, none⟩), .int .i64 i] W (AskP w x va fa ia vc fc ic n nw P TA TB gA gB mA mB i) := by
  obtain ⟨bi, oi, rfl, hbi, ao, ac, mo, mc, hci, him⟩ := (hC.later in_stays h.bel).2 i r hr
  have i0 : (0 : Int) ≤ (i : Int) := by omega
  have i1 : (i : Int) < (n : Int) := by omega
  have hc7 : W.cell? ⟨P, 7, none⟩ = some (.slice (some ⟨bi, oi, none⟩) n ic) := by rw [cells_at h.box 7, ← hx]; rfl
  have HT := hid h
  have d0 : W.cell? ⟨bi, oi + i * 13, none⟩ = some (.int .i64 r.op) := hci 0 _ rfl
  have d1 : W.cell? ⟨bi, oi + i * 13 + 1, none⟩ = some (.int .i64 r.d) := hci 1 _ rfl
  have d2 : W.cell? ⟨bi, oi + i * 13 + 2, none⟩ = some (.int .i64 r.a) := hci 2 _ rfl
  have d3 : W.cell? ⟨bi, oi + i * 13 + 3, none⟩ = some (.int .i64 r.b) := hci 3 _ rfl
  have d4 : W.cell? ⟨bi, oi + i * 13 + 4, none⟩ = some (.int .i64 r.f) := hci 4 _ rfl
  have d5 : W.cell? ⟨bi, oi + i * 13 + 5, none⟩ = some (.int .i64 r.n) := hci 5 _ rfl
  have d6 : W.cell? ⟨bi, oi + i * 13 + 6, none⟩ = some (.string r.sg) := hci 6 _ rfl
  have d7 : W.cell? ⟨bi, oi + i * 13 + 7, none⟩ = some (.slice ao r.xs.length ac) := hci 7 _ rfl
  have d8 : W.cell? ⟨bi, oi + i * 13 + 8, none⟩ = some (.slice mo r.ms.length mc) := hci 8 _ rfl
  have d9 : W.cell? ⟨bi, oi + i * 13 + 9, none⟩ = some (.int .i64 r.tt) := hci 9 _ rfl
  have d10 : W.cell? ⟨bi, oi + i * 13 + 10, none⟩ = some (.int .i64 r.el) := hci 10 _ rfl
  have d11 : W.cell? ⟨bi, oi + i * 13 + 11, none⟩ = some (.int .i64 r.l) := hci 11 _ rfl
  have d12 : W.cell? ⟨bi, oi + i * 13 + 12, none⟩ = some (.int .i64 r.c) := hci 12 _ rfl
  obtain ⟨L, hL'⟩ : ∃ L, nextL r i = L := ⟨_, rfl⟩
  have HLL := hid hL'
  have hL2 : L.length ≤ 2 := hL' ▸ next_few r i
  obtain ⟨m, hm⟩ : ∃ m, L.length = m := ⟨_, rfl⟩
  have HM := hid hm
  rw [hm] at hL2
  have HNX : Hid (∀ W, Calls Tryd.prog 43 #[.agg (InV r ao ac mo mc), .int .i64 i] W fun e w' => ∃ A ca, e = .returned (.slice A m ca) ∧ Hid (IntsM w' A L) ∧ Hid (Below W.heap.size W w')) := hid (fun W => (next_g r i (by omega) (by omega) ao mo ac mc W).mono fun e w' ⟨v, he, hi, hb⟩ => by
    obtain ⟨A, ca, hv, hA⟩ := hi.out
    rw [hL'] at hv hA
    rw [hm] at hv
    exact ⟨A, ca, by rw [he, hv], hid hA, hb⟩)
  have HX := hid (heap_alloc_new W (.cells (InV r ao ac mo mc) 53))
  have HT1 := hid (HT.out.later (below1 W (.cells (InV r ao ac mo mc) 53)))
  have HR := hid hr
  have HD := hid hd
  have HXN := hid hx
  have HLV := hid hL
  have HW := hid hw
  have HN := hid hn
  have HN2 := hid hn2
  have HI := hid hi
  clear h hci him hC hbi hr hd hx hL hw hn hn2 hi hL' hm
  go_enter Tryd.func26, Tryd.ntmps26
  go_wp2_with (first
    | (go_at_call 43; refine (HNX.out _).mono ?_; rintro e w5 ⟨A, ca, rfl, hi5, hb5⟩; have HT5 := hid (HT1.out.later hb5.out); have HX5 := hid (lay hb5.out HX.out); have HIM0 := hid hi5.out; clear hi5 hb5))
  obtain ⟨Q, hQ⟩ : ∃ Q, W.heap.size = Q := ⟨_, rfl⟩
  rw [hQ] at HX5 ⊢
  have HS0 : Hid (LT w x va fa (some ⟨bi, oi, none⟩) vc fc ic n nw P TA TB gA gB mA (upd mB i (joinL mA mB n i L 0)) w5) := hid (by
    refine HT5.out.as (fun _ _ _ _ => rfl) (fun a v ha hv => ?_)
    by_cases e : a = i
    · subst e; rw [upd_at, joinL_zero]
    · rw [upd_ne _ _ e])
  have HC0 : Hid (Chg false (joinL mA mB n i L 0) (mB i) (64 * nw)) := hid (Iff.intro (fun h => by cases h) (fun ⟨v, h1, h2, h3⟩ => by rw [joinL_zero, h3] at h2; cases h2))
  clear HNX d0 d1 d2 d3 d4 d5 d6 d7 d8 d9 d10 d11 d12 HX HT HT1 HT5 hQ hc7
  go_loopg [6, 24] m (fun gk v6 v24 wr => ∃ (j : Nat) (c : Bool), j ≤ m ∧ gk = m - j ∧ v6 = .bool c ∧ v24 = .int .i64 j ∧ Hid (LT w x va fa (some ⟨bi, oi, none⟩) vc fc ic n nw P TA TB gA gB mA (upd mB i (joinL mA mB n i L j)) wr) ∧ Hid (Chg c (joinL mA mB n i L j) (mB i) (64 * nw)) ∧ Hid (IntsM wr A L) ∧ Hid (wr.heap[Q]? = some (.cells (InV r ao ac mo mc) 53 (0, 0))))
  case atStart => exact ⟨0, false, by omega, by omega, rfl, rfl, HS0, HC0, HIM0, HX5⟩
  case round =>
    clear HS0 HC0 HIM0 HX5
    obtain ⟨j, c, hj, rfl, rfl, rfl, HS, HC, HA, HX⟩ := hrel
    by_cases hjm : j < m
    · have hjm' : (j : Int) < (m : Int) := by omega
      have j0 : (0 : Int) ≤ (j : Int) := by omega
      obtain ⟨y, hy⟩ := get_some HM.out hjm
      obtain ⟨b, o, rfl, hb1, hc1⟩ := HA.out.2 j y hy
      simp only [IntAt, Nat.mul_one] at hc1
      have HY := hid hy
      cases hin : inN n y
      case false =>
        have HTH := hid (there_f _ P n (some ⟨TA, 0, none⟩) n y false wr HS.out.box rfl hin)
        have HJ := hid (joinL_out (mA := mA) (mB := mB) (i := i) hy hin)
        clear hy hb1 hin
        go_wp2_with (go_at_call 28; refine HTH.out.mono ?_; rintro e w' ⟨rfl, rfl⟩)
        go_roundg (m - (j + 1))
        case measure => omega
        case rel => exact ⟨j + 1, c, by omega, rfl, rfl, rfl, by rw [HJ.out]; exact HS, by rw [HJ.out]; exact HC, HA, HX⟩
      case true =>
        have HTH := hid (there_f _ P n (some ⟨TA, 0, none⟩) n y true wr HS.out.box rfl hin)
        simp only [inN, Bool.and_eq_true, decide_eq_true_eq] at hin
        obtain ⟨k, rfl⟩ : ∃ k : Nat, y = k := ⟨y.toNat, by omega⟩
        have hkn : k < n := by omega
        have k0 : (0 : Int) ≤ (k : Int) := by omega
        have k1 : (k : Int) < (n : Int) := by omega
        have HJ := hid (joinL_in (mA := mA) (mB := mB) (i := i) hy hkn)
        have hc8 := cells_at HS.out.box 8
        have hc9 := cells_at HS.out.box 9
        have hrA := HS.out.ra.cell hkn
        have hrB := HS.out.rb.cell HI.out
        have HKN := hid hkn
        clear hy hb1 hin hkn
        go_wp2_with (go_at_call 28; refine HTH.out.mono ?_; rintro e w' ⟨rfl, hw⟩; obtain rfl := hw.symm)
        go_still_tail 14, (by kernel_rfl)
        change wpList _ _ _ _ _ wr.drew
        have HS4 := hid (HS.out.drew 1)
        have HA4 : Hid (IntsM wr.drew (some ⟨b, o, none⟩) L) := hid HA.out
        have HX4 : Hid (wr.drew.heap[Q]? = some (.cells (InV r ao ac mo mc) 53 (0, 0))) := hid HX.out
        change Hid (LT w x va fa (some ⟨bi, oi, none⟩) vc fc ic n nw P TA TB gA gB mA (upd mB i (joinL mA mB n i L j)) wr.drew) at HS4
        obtain ⟨w4, hw4⟩ : ∃ w4, wr.drew = w4 := ⟨_, rfl⟩
        rw [hw4] at HS4 HA4 HX4 ⊢
        clear HS HA HX hw4 hc8 hc9 hrA hrB HTH
        have HBm := hid (HS4.out.rb.row i HI.out)
        have HAm := hid (HS4.out.ra.row k HKN.out)
        rw [upd_at] at HBm
        obtain ⟨c2, hc2⟩ := new_some (joinL mA mB n i L j) (mA k) (64 * nw)
        have HC' : Hid (Chg (if c2 then true else c) (joinL mA mB n i L (j + 1)) (mB i) (64 * nw)) := hid (by
          rw [HJ.out]
          exact chg_step HC.out (fun v hv hm => by simp [joinL, hm]) hc2)
        have HJG := hid (join_g HBm.out HAm.out (HS4.out.ap k i HKN.out HI.out) HN.out hc2)
        clear hc2
        cases c2
        · simp only [Bool.false_eq_true, if_false] at HC'
          go_wp2_with (go_at_call 44; refine HJG.out.mono ?_; rintro e w6 ⟨rfl, hb6, hk6⟩
                       have HS6 := hid (HS4.out.setB HI.out hk6.out hb6.out)
                       have HA6 := hid (ints_kept HA4.out HBm.out hk6.out)
                       have HX6 := hid ((hk6.out.block Q (HBm.out.ne HX4.out (by decide))).trans HX4.out)
                       clear hb6 hk6)
          go_roundg (m - (j + 1))
          case measure => omega
          case rel => exact ⟨j + 1, c, by omega, rfl, rfl, rfl, hid (by
            refine HS6.out.as (fun _ _ _ _ => rfl) (fun a v ha hv => ?_)
            rw [HJ.out]
            by_cases e : a = i
            · subst e; rw [upd_at, upd_at]
            · rw [upd_ne _ _ e, upd_ne _ _ e, upd_ne _ _ e]), HC', HA6, HX6⟩
        · simp only [if_true] at HC'
          go_wp2_with (go_at_call 44; refine HJG.out.mono ?_; rintro e w6 ⟨rfl, hb6, hk6⟩
                       have HS6 := hid (HS4.out.setB HI.out hk6.out hb6.out)
                       have HA6 := hid (ints_kept HA4.out HBm.out hk6.out)
                       have HX6 := hid ((hk6.out.block Q (HBm.out.ne HX4.out (by decide))).trans HX4.out)
                       clear hb6 hk6)
          go_roundg (m - (j + 1))
          case measure => omega
          case rel => exact ⟨j + 1, true, by omega, rfl, rfl, rfl, hid (by
            refine HS6.out.as (fun _ _ _ _ => rfl) (fun a v ha hv => ?_)
            rw [HJ.out]
            by_cases e : a = i
            · subst e; rw [upd_at, upd_at]
            · rw [upd_ne _ _ e, upd_ne _ _ e, upd_ne _ _ e]), HC', HA6, HX6⟩
    · have hjm' : ¬ (j : Int) < (m : Int) := by omega
      obtain rfl : j = m := by omega
      have HJ := hid (joinL_all (m := j) (mA := mA) (mB := mB) HXN.out.symm HR.out (by rw [HLL.out]; exact HM.out))
      rw [HLL.out] at HJ
      rw [HJ.out] at HS HC
      clear HA
      cases c
      · have HP : Hid (LT w x va fa (some ⟨bi, oi, none⟩) vc fc ic n nw P TA TB gA gB mA mB wr ∧ Done x (64 * nw) mA mB i) := hid (by
          have hno : ∀ v, v < 64 * nw → joinB x mA mB i v = mB i v := fun v hv => by
            cases h1 : mB i v
            · cases h2 : joinB x mA mB i v
              · rfl
              · exact absurd (HC.out.2 ⟨v, hv, h2, h1⟩) (by decide)
            · simp [joinB, h1]
          refine ⟨HS.out.as (fun _ _ _ _ => rfl) (fun a v ha hv => ?_), fun v hv q hq ha => ?_⟩
          · by_cases e : a = i
            · subst e; rw [upd_at, hno v hv]
            · rw [upd_ne _ _ e]
          · rw [← hno v hv]
            unfold joinB
            rw [List.any_eq_true.2 ⟨q, hq, ha⟩, Bool.or_true])
        go_wp2
        go_ret
        exact ⟨false, rfl, hid (.inl ⟨rfl, HP.out⟩)⟩
      · obtain ⟨v0, hv0, hj0, hm0⟩ := HC.out.1 rfl
        have HV0 := hid (⟨v0, hv0, hm0, hj0⟩ : ∃ v, v < 64 * nw ∧ mB i v = false ∧ joinB x mA mB i v = true)
        obtain ⟨bw, hbw⟩ : ∃ bw, wrB r.op = bw := ⟨_, rfl⟩
        have HWR := hid (fun W => writes_g r bw ao mo ac mc W hbw)
        have hxi := cells_at HX.out
        clear hv0 hj0 hm0 HC HJ
        cases bw
        · have HEQ : Hid (∀ v, v < 64 * nw → (mA i v || joinB x mA mB i v) = (rdV x i v || (joinB x mA mB i v && !wrV x i v))) := hid (fun v hv => by
            have hwr : wrV x i v = false := by unfold wrV; rw [HR.out]; simp [hbw]
            rw [HLV.out.ahead i v HI.out hv, hwr]
            simp only [joinB]
            cases rdV x i v <;> cases mB i v <;> simp)
          clear hbw
          go_wp2_with (go_at_call 33; refine (HWR.out _).mono ?_; rintro e w6 ⟨rfl, hb6⟩; have HS6 := hid (HS.out.later hb6.out); clear hb6)
          have hc8 := cells_at HS6.out.box 8
          have hc9 := cells_at HS6.out.box 9
          have hrA := HS6.out.ra.cell HI.out
          have hrB := HS6.out.rb.cell HI.out
          go_still_tail 14, (by kernel_rfl)
          change wpList _ _ _ _ _ w6.drew
          have HS7 := hid (HS6.out.drew 1)
          change Hid (LT w x va fa (some ⟨bi, oi, none⟩) vc fc ic n nw P TA TB gA gB mA (upd mB i (joinB x mA mB i)) w6.drew) at HS7
          obtain ⟨w7, hw7⟩ : ∃ w7, w6.drew = w7 := ⟨_, rfl⟩
          rw [hw7] at HS7 ⊢
          clear HS6 hw7 hc8 hc9 hrA hrB
          have HBm := hid (HS7.out.rb.row i HI.out)
          have HAm := hid (HS7.out.ra.row i HI.out)
          rw [upd_at] at HBm
          obtain ⟨c3, hc3⟩ := new_some (mA i) (joinB x mA mB i) (64 * nw)
          have HJG := hid (join_g HAm.out HBm.out (fun e => HS7.out.ap i i HI.out HI.out e.symm) HN.out hc3)
          clear hc3
          go_wp2_with (go_at_call 44; refine HJG.out.mono ?_; rintro e w8 ⟨rfl, hb8, hk8⟩; have HS8 := hid (HS7.out.setA HI.out hk8.out hb8.out); clear hb8 hk8)
          go_ret
          exact ⟨true, rfl, hid (.inr ⟨rfl, HS8.out.as (fun a v ha hv => by
            by_cases e : a = i
            · subst e
              rw [upd_at, upd_at]
              exact HEQ.out v hv
            · rw [upd_ne _ _ e, upd_ne _ _ e]) (fun _ _ _ _ => rfl), HV0.out⟩)⟩
        · have hin := HD.out hbw
          simp only [inN, Bool.and_eq_true, decide_eq_true_eq] at hin
          obtain ⟨k, hk⟩ : ∃ k : Nat, r.d = k := ⟨r.d.toNat, by omega⟩
          have hkV : k < x.vs.length := by omega
          have HWV : Hid (∀ v, wrV x i v = (k == v)) := hid (fun v => by
            unfold wrV
            rw [HR.out]
            simp only [hbw, hk, Bool.true_and]
            by_cases e : k = v
            · subst e; simp
            · have : ((k : Int) == (v : Int)) = false := by simp; omega
              rw [this]; simp; omega)
          have HW6 : Hid (∀ W, Calls Tryd.prog 33 #[.agg (InV r ao ac mo mc)] W fun e w' => e = .returned (.tuple #[.int .i64 k, .bool true]) ∧ Hid (Below W.heap.size W w')) := hid (fun W => by
            have := HWR.out W
            simp only [if_true, hk] at this
            exact this)
          have HVK : Hid (∀ W, LT w x va fa (some ⟨bi, oi, none⟩) vc fc ic n nw P TA TB gA gB mA (upd mB i (joinB x mA mB i)) W → Calls Tryd.prog 24 #[.pointer (some ⟨P, 0, none⟩), .int .i64 k] W fun e w' => e = .returned (.bool true) ∧ w' = W) := hid (fun W h => variable_f _ P x.vs.length va vc (k : Int) true W h.box rfl (inN_t (by omega) (by omega)))
          have hk64 : k < 64 * nw := by have := HW.out; omega
          have HK64 := hid hk64
          have HHK : Hid (∀ W, LT w x va fa (some ⟨bi, oi, none⟩) vc fc ic n nw P TA TB gA gB mA (upd mB i (joinB x mA mB i)) W → Calls Tryd.prog 38 #[.slice (some ⟨gA i, 0, none⟩) nw nw, .int .i64 k] W fun e w' => e = .returned (.bool (mA i k)) ∧ w' = W) := hid (fun W h => has_f (gA i) nw k (mA i) W (h.ra.row i HI.out) HK64.out HN.out)
          clear hin hk hbw HWR hk64 hkV
          cases hmk : mA i k
          · have HEQ : Hid (∀ v, v < 64 * nw → unmark (fun v => mA i v || joinB x mA mB i v) k v = (rdV x i v || (joinB x mA mB i v && !wrV x i v))) := hid (fun v hv => by
              show ((mA i v || joinB x mA mB i v) && !(v == k)) = (rdV x i v || (joinB x mA mB i v && !wrV x i v))
              have h0 := HLV.out.ahead i v HI.out hv
              by_cases e : v = k
              · subst e
                rw [hmk, HWV.out] at h0
                simp only [beq_self_eq_true, Bool.not_true, Bool.and_false, Bool.or_false] at h0
                rw [HWV.out, ← h0]
                simp
              · have e1 : (v == k) = false := by simp [e]
                have e2 : (k == v) = false := by simp; omega
                rw [HWV.out, e2] at h0 ⊢
                rw [h0, e1]
                simp only [joinB]
                cases rdV x i v <;> cases mB i v <;> simp)
            rw [hmk] at HHK
            clear hmk
            go_wp2_with (first
              | (go_at_call 33; refine (HW6.out _).mono ?_; rintro e w6 ⟨rfl, hb6⟩; have HS6 := hid (HS.out.later hb6.out); have hc8 := cells_at HS6.out.box 8; have hrA := HS6.out.ra.cell HI.out; clear hb6)
              | (go_at_call 24; refine (HVK.out _ HS6.out).mono ?_; rintro e w9 ⟨rfl, hw9⟩; obtain rfl := hw9.symm)
              | (go_at_call 38; refine (HHK.out _ HS6.out).mono ?_; rintro e w9 ⟨rfl, hw9⟩; obtain rfl := hw9.symm))
            clear hc8 hrA
            have hc8 := cells_at HS6.out.box 8
            have hc9 := cells_at HS6.out.box 9
            have hrA := HS6.out.ra.cell HI.out
            have hrB := HS6.out.rb.cell HI.out
            go_still_tail 14, (by kernel_rfl)
            change wpList _ _ _ _ _ w6.drew
            have HS7 := hid (HS6.out.drew 1)
            change Hid (LT w x va fa (some ⟨bi, oi, none⟩) vc fc ic n nw P TA TB gA gB mA (upd mB i (joinB x mA mB i)) w6.drew) at HS7
            obtain ⟨w7, hw7⟩ : ∃ w7, w6.drew = w7 := ⟨_, rfl⟩
            rw [hw7] at HS7 ⊢
            clear HS6 hw7 hc8 hc9 hrA hrB
            have HBm := hid (HS7.out.rb.row i HI.out)
            have HAm := hid (HS7.out.ra.row i HI.out)
            rw [upd_at] at HBm
            obtain ⟨c3, hc3⟩ := new_some (mA i) (joinB x mA mB i) (64 * nw)
            have HJG := hid (join_g HAm.out HBm.out (fun e => HS7.out.ap i i HI.out HI.out e.symm) HN.out hc3)
            clear hc3
            go_wp2_with (first
              | (go_at_call 44; refine HJG.out.mono ?_; rintro e w8 ⟨rfl, hb8, hk8⟩; have HS8 := hid (HS7.out.setA HI.out hk8.out hb8.out); have hc8 := cells_at HS8.out.box 8; have hrA := HS8.out.ra.cell HI.out; clear hb8 hk8)
              | (go_at_call 45; refine (drop_f (gA i) nw k _ _ (by have := HS8.out.ra.row i HI.out; rwa [upd_at] at this) HK64.out HN.out).mono ?_; rintro e w9 ⟨rfl, hb9, hk9⟩; have HS9 := hid (HS8.out.setA HI.out hk9.out hb9.out); clear hb9 hk9))
            go_ret
            exact ⟨true, rfl, hid (.inr ⟨rfl, HS9.out.as (fun a v ha hv => by
              by_cases e : a = i
              · subst e
                rw [upd_at, upd_at]
                exact HEQ.out v hv
              · rw [upd_ne _ _ e, upd_ne _ _ e, upd_ne _ _ e]) (fun _ _ _ _ => rfl), HV0.out⟩)⟩
          · have HEQ : Hid (∀ v, v < 64 * nw → (mA i v || joinB x mA mB i v) = (rdV x i v || (joinB x mA mB i v && !wrV x i v))) := hid (fun v hv => by
              have h0 := HLV.out.ahead i v HI.out hv
              by_cases e : v = k
              · subst e
                rw [hmk, HWV.out] at h0
                simp only [beq_self_eq_true, Bool.not_true, Bool.and_false, Bool.or_false] at h0
                rw [HWV.out, ← h0, hmk]
                simp
              · have e2 : (k == v) = false := by simp; omega
                rw [HWV.out, e2] at h0 ⊢
                rw [h0]
                simp only [joinB]
                cases rdV x i v <;> cases mB i v <;> simp)
            rw [hmk] at HHK
            clear hmk
            go_wp2_with (first
              | (go_at_call 33; refine (HW6.out _).mono ?_; rintro e w6 ⟨rfl, hb6⟩; have HS6 := hid (HS.out.later hb6.out); have hc8 := cells_at HS6.out.box 8; have hrA := HS6.out.ra.cell HI.out; clear hb6)
              | (go_at_call 24; refine (HVK.out _ HS6.out).mono ?_; rintro e w9 ⟨rfl, hw9⟩; obtain rfl := hw9.symm)
              | (go_at_call 38; refine (HHK.out _ HS6.out).mono ?_; rintro e w9 ⟨rfl, hw9⟩; obtain rfl := hw9.symm))
            clear hc8 hrA
            have hc8 := cells_at HS6.out.box 8
            have hc9 := cells_at HS6.out.box 9
            have hrA := HS6.out.ra.cell HI.out
            have hrB := HS6.out.rb.cell HI.out
            go_still_tail 14, (by kernel_rfl)
            change wpList _ _ _ _ _ w6.drew
            have HS7 := hid (HS6.out.drew 1)
            change Hid (LT w x va fa (some ⟨bi, oi, none⟩) vc fc ic n nw P TA TB gA gB mA (upd mB i (joinB x mA mB i)) w6.drew) at HS7
            obtain ⟨w7, hw7⟩ : ∃ w7, w6.drew = w7 := ⟨_, rfl⟩
            rw [hw7] at HS7 ⊢
            clear HS6 hw7 hc8 hc9 hrA hrB
            have HBm := hid (HS7.out.rb.row i HI.out)
            have HAm := hid (HS7.out.ra.row i HI.out)
            rw [upd_at] at HBm
            obtain ⟨c3, hc3⟩ := new_some (mA i) (joinB x mA mB i) (64 * nw)
            have HJG := hid (join_g HAm.out HBm.out (fun e => HS7.out.ap i i HI.out HI.out e.symm) HN.out hc3)
            clear hc3
            go_wp2_with (go_at_call 44; refine HJG.out.mono ?_; rintro e w8 ⟨rfl, hb8, hk8⟩; have HS8 := hid (HS7.out.setA HI.out hk8.out hb8.out); clear hb8 hk8)
            go_ret
            exact ⟨true, rfl, hid (.inr ⟨rfl, HS8.out.as (fun a v ha hv => by
              by_cases e : a = i
              · subst e
                rw [upd_at, upd_at]
                exact HEQ.out v hv
              · rw [upd_ne _ _ e, upd_ne _ _ e]) (fun _ _ _ _ => rfl), HV0.out⟩)⟩
end
end Go.Proofs.YtlbcinanpnjjjaaDoor
