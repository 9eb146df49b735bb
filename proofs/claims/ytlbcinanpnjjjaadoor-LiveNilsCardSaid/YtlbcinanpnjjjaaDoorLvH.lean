/- The table of a code. Conditions: fewer than a million instructions, what is read and written are variables, at most 40 arguments. -/
import Derived.Test.YtlbcinanpnjjjaaDoorLvF
import Derived.Test.YtlbcinanpnjjjaaDoorLvG
import Derived.Deep.RegionHeld3
import Derived.WalkMore
namespace Go.Proofs.YtlbcinanpnjjjaaDoor
open Go.RowKit Go.Maps
set_option linter.unusedVariables false
set_option linter.unusedSimpArgs false
/-- A box with a code, the first block behind w. -/
structure CX (w : World) (cv : Array Value) (W : World) : Prop where
  bel : Below w.heap.size w W
  box : W.heap[w.heap.size]? = some (.cells cv 30 (0, 0))
theorem CX.cn {w W : World} {cv : Array Value} (h : CX w cv W) : ∀ i, W.cell? ⟨w.heap.size, i, none⟩ = cv[i]? := fun i => cells_at h.box i
theorem CX.later {w W W' : World} {cv : Array Value} (h : CX w cv W) (hb : Below W.heap.size W W') : CX w cv W' := ⟨after h.bel hb h.bel.size, lay hb h.box⟩
section
variable {w W W' : World} {x : CoD} {va fa ia : Option Addr} {vc fc ic n nw P TA TB K : Nat} {gA gB : Nat → Nat} {mA mB : Nat → Nat → Bool}
theorem LT.low {w0 : World} (h : LT w x va fa ia vc fc ic n nw P TA TB gA gB mA mB W) (h0 : Below w0.heap.size w0 w) : LT w0 x va fa ia vc fc ic n nw P TA TB gA gB mA mB W :=
  ⟨after h0 h.bel h0.size, h.box, ⟨h.ra.blk, h.ra.row, h.ra.inj, fun i hi => Nat.le_trans h0.size (h.ra.lo i hi), Nat.le_trans h0.size h.ra.loT⟩, ⟨h.rb.blk, h.rb.row, h.rb.inj, fun i hi => Nat.le_trans h0.size (h.rb.lo i hi), Nat.le_trans h0.size h.rb.loT⟩, Nat.le_trans h0.size h.lo, h.ap⟩
/-- The reads of all below i, and the first j of i. -/
def rdM (x : CoD) (i : Nat) (L : List Int) : Nat → Nat → Bool := fun a v => if a < i then rdV x a v else if a = i then L.any (fun y => y == (v : Int)) else false
theorem rdM_zero (x : CoD) : rdM x 0 [] = fun _ _ => false := by
  funext a v
  simp [rdM]
theorem rdM_next {x : CoD} {i : Nat} {r : InD} (hr : x.ins[i]? = some r) : rdM x i (rdsF r) = rdM x (i + 1) [] := by
  funext a v
  unfold rdM
  by_cases h : a < i
  · rw [if_pos h, if_pos (by omega)]
  · rw [if_neg h]
    by_cases e : a = i
    · subst e
      rw [if_pos rfl, if_pos (by omega)]
      unfold rdV; rw [hr]
    · rw [if_neg e, if_neg (by omega)]
      split <;> simp
theorem rdM_snoc (x : CoD) (i : Nat) (L : List Int) (k : Nat) : rdM x i (L ++ [(k : Int)]) = upd (rdM x i L) i (mark (rdM x i L i) k) := by
  funext a v
  by_cases e : a = i
  · subst e
    rw [upd_at]
    unfold rdM mark
    rw [if_neg (by omega), if_pos rfl, List.any_append]
    by_cases e : k = v
    · subst e; simp
    · have h1 : ((k : Int) == (v : Int)) = false := by simp; omega
      have h2 : (v == k) = false := by simp; omega
      simp [h1, h2]
  · rw [upd_ne _ _ e]
    unfold rdM
    rw [if_neg e, if_neg e]
theorem ask_no (i : Nat) (r : InD) (h : LT w x va fa ia vc fc ic n nw P TA TB gA gB mA mB W) (hL : Lv x n (64 * nw) mA mB) (hr : x.ins[i]? = some r) (hC : RowM 13 InAt w ia x.ins) (hx : x.ins.length = n) (hi : i < n)
    (hd : wrB r.op = true → inN x.vs.length r.d = true) (hw : x.vs.length ≤ 64 * nw) (hn : nw < 1000000) (hn2 : n < 1000000) (hD : Done x (64 * nw) mA mB i) :
    Calls Tryd.prog 26 #[.pointer (some ⟨P, 0, none⟩), .int .i64 i] W fun e w' => e = .returned (.bool false) ∧ Hid (LT w x va fa ia vc fc ic n nw P TA TB gA gB mA mB w') :=
  (ask_f i r h hL hr hC hx hi hd hw hn hn2).mono fun e w' ⟨c, he, hc⟩ => by
    rcases hc.out with ⟨rfl, h1, -⟩ | ⟨-, -, v, h1, h2, h3⟩
    · exact ⟨he, hid h1⟩
    · exfalso
      simp only [joinB, Bool.or_eq_true, List.any_eq_true] at h3
      rcases h3 with h3 | ⟨j, h3, h4⟩
      · rw [h2] at h3; cases h3
      · have := hD v h1 j h3 h4
        rw [h2] at this; cases this
theorem ask_yes (i : Nat) (r : InD) (h : LT w x va fa ia vc fc ic n nw P TA TB gA gB mA mB W) (hL : Lv x n (64 * nw) mA mB) (hr : x.ins[i]? = some r) (hC : RowM 13 InAt w ia x.ins) (hx : x.ins.length = n) (hi : i < n)
    (hd : wrB r.op = true → inN x.vs.length r.d = true) (hw : x.vs.length ≤ 64 * nw) (hn : nw < 1000000) (hn2 : n < 1000000) (hD : ¬ Done x (64 * nw) mA mB i) :
    Calls Tryd.prog 26 #[.pointer (some ⟨P, 0, none⟩), .int .i64 i] W fun e w' => e = .returned (.bool true) ∧ ∃ mA' mB', Hid (LT w x va fa ia vc fc ic n nw P TA TB gA gB mA' mB' w') ∧ Hid (Lv x n (64 * nw) mA' mB') ∧ Hid (lacks mB' (64 * nw) n < lacks mB (64 * nw) n) :=
  (ask_f i r h hL hr hC hx hi hd hw hn hn2).mono fun e w' ⟨c, he, hc⟩ => by
    rcases hc.out with ⟨-, -, h1⟩ | ⟨rfl, h0, v, h1, h2, h3⟩
    · exact absurd h1 hD
    · exact ⟨he, _, _, hid h0, hid (hL.step hx.symm hi), hid (Lv.less hi h1 h2 h3)⟩
end
/-- What holds within a round: c tells whether something changed; from t on all was looked at. -/
structure PassS (x : CoD) (n K : Nat) (mA mB : Nat → Nat → Bool) (c : Bool) (mA' mB' : Nat → Nat → Bool) (t : Nat) : Prop where
  no : c = false → mA' = mA ∧ mB' = mB ∧ ∀ a, t ≤ a → a < n → Done x K mA mB a
  yes : c = true → lacks mB' K n < lacks mB K n
theorem PassS.start (x : CoD) (n K : Nat) (mA mB : Nat → Nat → Bool) : PassS x n K mA mB false mA mB n :=
  ⟨fun _ => ⟨rfl, rfl, fun a h1 h2 => absurd h1 (by omega)⟩, fun h => by cases h⟩
theorem PassS.still {x : CoD} {n K : Nat} {mA mB mA' mB' : Nat → Nat → Bool} {c : Bool} {a : Nat} (h : PassS x n K mA mB c mA' mB' (a + 1)) (hd : Done x K mA' mB' a) : PassS x n K mA mB c mA' mB' a :=
  ⟨fun hc => by
    obtain ⟨h1, h2, h3⟩ := h.no hc
    refine ⟨h1, h2, fun b hb hn => ?_⟩
    by_cases e : b = a
    · subst e; rw [← h1, ← h2]; exact hd
    · exact h3 b (by omega) hn, h.yes⟩
theorem PassS.more {x : CoD} {n K : Nat} {mA mB mA' mB' mA2 mB2 : Nat → Nat → Bool} {c : Bool} {a : Nat} (h : PassS x n K mA mB c mA' mB' (a + 1)) (hl : lacks mB2 K n < lacks mB' K n) : PassS x n K mA mB true mA2 mB2 a :=
  ⟨fun hc => (by cases hc), fun _ => by
    cases c
    · obtain ⟨h1, h2, h3⟩ := h.no rfl
      rw [← h2]; exact hl
    · have := h.yes rfl
      omega⟩
/-- What the table tells. -/
def TellsT (x : CoD) (n K : Nat) (mA mB : Nat → Nat → Bool) : Prop := ∀ i v, i < n → v < K → (mA i v = true ↔ Ask x i v) ∧ (mB i v = true ↔ AskB x i v)
/-- What Of leaves. -/
def OfP (x : CoD) (va fa ia : Option Addr) (vc fc ic : Nat) (w : World) (e : Ending) (w' : World) : Prop :=
  ∃ P TA TB gA gB mA mB, e = .returned (.pointer (some ⟨P, 0, none⟩)) ∧ Hid (LT w x va fa ia vc fc ic x.ins.length (wordsN x.vs.length) P TA TB gA gB mA mB w') ∧ Hid (TellsT x x.ins.length (64 * wordsN x.vs.length) mA mB)
/-- All that is read and written are variables, of at most 40 arguments. -/
def Fits (x : CoD) : Prop := ∀ r ∈ x.ins, r.xs.length ≤ 40 ∧ (∀ y ∈ rdsF r, inN x.vs.length y = true) ∧ (wrB r.op = true → inN x.vs.length r.d = true)
set_option maxRecDepth 100000 in
set_option maxHeartbeats 16000000 in
theorem of_f (x : CoD) (va fa ia : Option Addr) (vc fc ic : Nat) (w : World) (hs : x.ins.length < 1000000) (hv : x.vs.length < 1000000) (hC : RowM 13 InAt w ia x.ins) (hF : Fits x) :
    Calls Tryd.prog 7 #[.agg (CoV x va vc fa fc ia ic)] w (OfP x va fa ia vc fc ic w) := by
  obtain ⟨W1, hW1⟩ : ∃ W1, w.alloc (.cells (CoV x va vc fa fc ia ic) 30) = W1 := ⟨_, rfl⟩
  have HX1 : Hid (CX w (CoV x va vc fa fc ia ic) W1) := hid (by subst hW1; exact ⟨below1 _ _, heap_alloc_new _ _⟩)
  have HB1 := hid (HX1.out.bel)
  have HC1 := hid (hC.later in_stays HB1.out)
  have HN := hid hs
  have HV := hid hv
  have HF := hid hF
  have HSV := hid (fun W => several_f x.ins.length x.vs.length W hs hv)
  have hcn := HX1.out.cn
  have HP0 := hid (HX1.out.later (below_drew1 W1))
  clear hC hs hv hF
  go_enter Tryd.func7, Tryd.ntmps7
  have T1 : True := trivial
  go_wp2
  go_step3
  go_wp2
  clear hW1
  go_region_held3 (fun W => ∀ i, W.cell? ⟨w.heap.size, i, none⟩ = (CoV x va vc fa fc ia ic)[i]?)
    (first | exact HP0.out.cn | exact HP1.out.cn | exact HP2.out.cn | exact (HP2.out.later (below1 _ _)).cn)
    (first
    | (go_at_call 22; have tok := HP0; clear HP0; go_must (refine (HSV.out _).mono ?_); rintro e v0 ⟨TA, gA, rfl, hr, hb⟩; have HP1 := hid (tok.out.later hb.out); have HRA := hid hr.out; have HBA := hid hb.out; clear hb tok hr)
    | (go_at_call 22; have tok := HP1; clear HP1; go_must (refine (HSV.out _).mono ?_); rintro e v1 ⟨TB, gB, rfl, hr, hb⟩; have HP2 := hid (tok.out.later hb.out); have HRB := hid hr.out; have HBB := hid hb.out; clear hb tok hr))
  have HS0 : Hid (LT W1.drew x va fa ia vc fc ic x.ins.length (wordsN x.vs.length) v1.heap.size TA TB gA gB (rdM x 0 []) (fun _ _ => false) (v1.alloc (.cells (TabV x va vc fa fc ia ic TA TB x.ins.length) 60))) := hid (by
    have h1 := HBA.out
    have h2 := HBB.out
    have h3 := below1 v1 (.cells (TabV x va vc fa fc ia ic TA TB x.ins.length) 60)
    refine ⟨after (after h1 h2 h1.size) h3 (Nat.le_trans h1.size h2.size), heap_alloc_new _ _, ?_, ?_, Nat.le_trans h1.size h2.size, fun i j hi hj e => ?_⟩
    · rw [rdM_zero]
      exact (HRA.out.later h2).later h3
    · have h4 := HRB.out.later h3
      exact ⟨h4.blk, h4.row, h4.inj, fun i hi => Nat.le_trans h1.size (h4.lo i hi), Nat.le_trans h1.size h4.loT⟩
    · have h5 := (HRA.out.row i hi).lt
      have h6 := HRB.out.lo j hj
      omega)
  have HC2 : Hid (RowM 13 InAt W1.drew ia x.ins) := hid (HC1.out.later in_stays (below_drew1 W1))
  have HX2 : Hid (CX w (CoV x va vc fa fc ia ic) W1.drew) := hid (HX1.out.later (below_drew1 W1))
  rename_i hHeld
  clear hHeld hcn HX1 HC1 HSV HRA HRB HBA HBB HP2
  obtain ⟨W2, hW2⟩ : ∃ W2, W1.drew = W2 := ⟨_, rfl⟩
  obtain ⟨P, hP⟩ : ∃ P, v1.heap.size = P := ⟨_, rfl⟩
  rw [hW2] at HS0 HC2 HX2
  rw [hP] at HS0 ⊢
  clear hW2 hP
  obtain ⟨w3, hw3⟩ : ∃ w3, v1.alloc (.cells (TabV x va vc fa fc ia ic TA TB x.ins.length) 60) = w3 := ⟨_, rfl⟩
  rw [hw3] at HS0
  have hx3 := ((HX2.out.later HS0.out.bel)).cn
  have HW : Hid (x.vs.length ≤ 64 * wordsN x.vs.length) := hid (words_le _)
  have HNW : Hid (wordsN x.vs.length < 1000000) := hid (by unfold wordsN; have := HV.out; omega)
  obtain ⟨nw, hnw⟩ : ∃ nw, wordsN x.vs.length = nw := ⟨_, rfl⟩
  have HNWE := hid hnw
  rw [hnw] at HS0 HW HNW
  clear hnw
  go_wp2
  clear hw3 hx3
  go_loopg [31] x.ins.length (fun gk v31 wr => ∃ i : Nat, i ≤ x.ins.length ∧ gk = x.ins.length - i ∧ v31 = .int .i64 i ∧ Hid (LT W2 x va fa ia vc fc ic x.ins.length nw P TA TB gA gB (rdM x i []) (fun _ _ => false) wr))
  case atStart => exact ⟨0, by omega, by omega, rfl, HS0⟩
  case round =>
    clear HS0
    obtain ⟨i, hi, rfl, rfl, HS⟩ := hrel
    have n9 : x.ins.length < 1000000 := HN.out
    by_cases hin : i < x.ins.length
    · have hin' : (i : Int) < (x.ins.length : Int) := by omega
      have i0 : (0 : Int) ≤ (i : Int) := by omega
      obtain ⟨r, hr⟩ := get_some (l := x.ins) rfl hin
      obtain ⟨bi, oi, rfl, hbi, ao, ac, mo, mc, hci, him⟩ := (HC2.out.later in_stays HS.out.bel).2 i r hr
      have d0 : wr.cell? ⟨bi, oi + i * 13, none⟩ = some (.int .i64 r.op) := hci 0 _ rfl
      have d1 : wr.cell? ⟨bi, oi + i * 13 + 1, none⟩ = some (.int .i64 r.d) := hci 1 _ rfl
      have d2 : wr.cell? ⟨bi, oi + i * 13 + 2, none⟩ = some (.int .i64 r.a) := hci 2 _ rfl
      have d3 : wr.cell? ⟨bi, oi + i * 13 + 3, none⟩ = some (.int .i64 r.b) := hci 3 _ rfl
      have d4 : wr.cell? ⟨bi, oi + i * 13 + 4, none⟩ = some (.int .i64 r.f) := hci 4 _ rfl
      have d5 : wr.cell? ⟨bi, oi + i * 13 + 5, none⟩ = some (.int .i64 r.n) := hci 5 _ rfl
      have d6 : wr.cell? ⟨bi, oi + i * 13 + 6, none⟩ = some (.string r.sg) := hci 6 _ rfl
      have d7 : wr.cell? ⟨bi, oi + i * 13 + 7, none⟩ = some (.slice ao r.xs.length ac) := hci 7 _ rfl
      have d8 : wr.cell? ⟨bi, oi + i * 13 + 8, none⟩ = some (.slice mo r.ms.length mc) := hci 8 _ rfl
      have d9 : wr.cell? ⟨bi, oi + i * 13 + 9, none⟩ = some (.int .i64 r.tt) := hci 9 _ rfl
      have d10 : wr.cell? ⟨bi, oi + i * 13 + 10, none⟩ = some (.int .i64 r.el) := hci 10 _ rfl
      have d11 : wr.cell? ⟨bi, oi + i * 13 + 11, none⟩ = some (.int .i64 r.l) := hci 11 _ rfl
      have d12 : wr.cell? ⟨bi, oi + i * 13 + 12, none⟩ = some (.int .i64 r.c) := hci 12 _ rfl
      have hf := HF.out r (List.mem_of_getElem? hr)
      obtain ⟨L, hL⟩ : ∃ L, rdsF r = L := ⟨_, rfl⟩
      obtain ⟨m, hm⟩ : ∃ m, L.length = m := ⟨_, rfl⟩
      have hm9 : m ≤ 40 := by
        rw [← hm, ← hL]
        unfold rdsF
        split
        · exact hf.1
        · split <;> split <;> simp
      have HRD : Hid (∀ W, Below wr.heap.size wr W → Calls Tryd.prog 23 #[.agg (InV r ao ac mo mc)] W fun e w' => ∃ A ca, e = .returned (.slice A m ca) ∧ Hid (IntsM w' A L) ∧ Hid (Below W.heap.size W w')) := hid (fun W hb => (reads_f r ao mo ac mc W (him.later hb).xs hf.1).mono fun e w' ⟨v, he, hi, hb⟩ => by
        obtain ⟨A, ca, hv, hA⟩ := hi.out
        rw [hL] at hv hA
        rw [hm] at hv
        exact ⟨A, ca, by rw [he, hv], hid hA, hb⟩)
      have HLV : Hid (∀ y ∈ L, inN x.vs.length y = true) := hid (hL ▸ hf.2.1)
      have HM := hid hm
      have HNX : Hid (rdM x i L = rdM x (i + 1) []) := hid (hL ▸ rdM_next hr)
      have HBX := hid (below1 wr (.cells (InV r ao ac mo mc) 53))
      have HIN := hid hin
      have HIX := hid (heap_alloc_new wr (.cells (InV r ao ac mo mc) 53))
      clear hr hbi hci him hf hL hm hin
      go_wp2_with (go_at_call 23; refine (HRD.out _ HBX.out).mono ?_; rintro e w5 ⟨A, ca, rfl, hi5, hb5⟩; have HS5 := hid (HS.out.later (after HBX.out hb5.out HBX.out.size)); have HI5 := hid hi5.out; clear hi5 hb5)
      clear HRD HBX HIX HS d0 d1 d2 d3 d4 d5 d6 d7 d8 d9 d10 d11 d12
      rw [show (rdM x i [] : Nat → Nat → Bool) = rdM x i (L.take 0) from rfl] at HS5
      go_loopg [39] m (fun gk v39 wi => ∃ j : Nat, j ≤ m ∧ gk = m - j ∧ v39 = .int .i64 j ∧ Hid (LT W2 x va fa (some ⟨bi, oi, none⟩) vc fc ic x.ins.length nw P TA TB gA gB (rdM x i (L.take j)) (fun _ _ => false) wi) ∧ Hid (IntsM wi A L))
      case atStart => exact ⟨0, by omega, by omega, rfl, HS5, HI5⟩
      case round =>
        clear HS5 HI5
        obtain ⟨j, hj, rfl, rfl, HS, HA⟩ := hrel
        by_cases hjm : j < m
        · have hjm' : (j : Int) < (m : Int) := by omega
          have j0 : (0 : Int) ≤ (j : Int) := by omega
          obtain ⟨y, hy⟩ := get_some HM.out hjm
          have hyv := HLV.out y (List.mem_of_getElem? hy)
          have hyv2 := hyv
          simp only [inN, Bool.and_eq_true, decide_eq_true_eq] at hyv2
          obtain ⟨k, rfl⟩ : ∃ k : Nat, y = k := ⟨y.toNat, by omega⟩
          obtain ⟨b, o, rfl, hb1, hc1⟩ := HA.out.2 j k hy
          simp only [IntAt, Nat.mul_one] at hc1
          have HT := hid (show rdM x i (L.take (j + 1)) = upd (rdM x i (L.take j)) i (mark (rdM x i (L.take j) i) k) by rw [List.take_add_one, hy]; exact rdM_snoc x i _ k)
          have HVF := hid (variable_f _ P x.vs.length va vc (k : Int) true wr HS.out.box rfl hyv)
          have HPF := hid (put_f (gA i) nw k _ wr (HS.out.ra.row i HIN.out) (by have := HW.out; omega) HNW.out)
          have hc8 := cells_at HS.out.box 8
          have hrA := HS.out.ra.cell HIN.out
          have HBm := hid (HS.out.ra.row i HIN.out)
          clear hy hyv hyv2 hb1
          go_wp2_with (first
            | (go_at_call 24; refine HVF.out.mono ?_; rintro e w9 ⟨rfl, hw9⟩; obtain rfl := hw9.symm)
            | (go_at_call 25; refine HPF.out.mono ?_; rintro e w9 ⟨rfl, hb9, hk9⟩; have HS9 := hid (HS.out.setA HIN.out hk9.out hb9.out); have HA9 := hid (ints_kept HA.out HBm.out hk9.out); clear hb9 hk9))
          go_roundg (m - (j + 1))
          case measure => omega
          case rel => exact ⟨j + 1, by omega, rfl, rfl, by rw [HT.out]; exact HS9, HA9⟩
        · have hjm' : ¬ (j : Int) < (m : Int) := by omega
          obtain rfl : j = m := by omega
          rw [List.take_of_length_le (by have := HM.out; omega), HNX.out] at HS
          go_wp2
          go_roundg (x.ins.length - (i + 1))
          case measure => omega
          case rel => exact ⟨i + 1, by omega, rfl, rfl, HS⟩
    · have hin' : ¬ (i : Int) < (x.ins.length : Int) := by omega
      obtain rfl : i = x.ins.length := by omega
      have HS1 : Hid (LT W2 x va fa ia vc fc ic x.ins.length nw P TA TB gA gB (rdV x) (fun _ _ => false) wr) := hid (HS.out.as (fun a v ha hv => by unfold rdM; rw [if_pos ha]) (fun _ _ _ _ => rfl))
      have HL1 := hid (lv_start x x.ins.length (64 * nw))
      clear HS
      go_wp2
      go_step3
      go_wp2
      go_loopg [9, 10] (lacks (fun _ _ => false) (64 * nw) x.ins.length) (fun gk v9 v10 wr => ∃ mA mB, gk = lacks mB (64 * nw) x.ins.length ∧ Hid (Lv x x.ins.length (64 * nw) mA mB) ∧ Hid (LT W2 x va fa ia vc fc ic x.ins.length nw P TA TB gA gB mA mB wr))
      case atStart => exact ⟨_, _, rfl, HL1, HS1⟩
      case round =>
        clear HS1 HL1
        obtain ⟨mA, mB, rfl, HL, HS⟩ := hrel
        have hx3 := ((HX2.out.later HS.out.bel)).cn
        have HSI : Hid (LT W2 x va fa ia vc fc ic x.ins.length nw P TA TB gA gB mA mB wr) := HS
        have HLI : Hid (Lv x x.ins.length (64 * nw) mA mB) := HL
        have HP0 := hid (PassS.start x x.ins.length (64 * nw) mA mB)
        clear HS
        go_wp2
        clear hx3
        go_loopg [9, 10] x.ins.length (fun gk v9 v10 wi => ∃ (t : Nat) (z : Int) (c : Bool) (mA' mB' : Nat → Nat → Bool), t ≤ x.ins.length ∧ gk = 0 + t ∧ z = (t : Int) - 1 ∧ v9 = .bool c ∧ v10 = .int .i64 z ∧ Hid (Lv x x.ins.length (64 * nw) mA' mB') ∧ Hid (LT W2 x va fa ia vc fc ic x.ins.length nw P TA TB gA gB mA' mB' wi) ∧ Hid (PassS x x.ins.length (64 * nw) mA mB c mA' mB' t))
        case atStart => exact ⟨x.ins.length, _, false, mA, mB, Nat.le_refl _, by omega, rfl, rfl, rfl, HLI, HSI, HP0⟩
        case round =>
          clear HSI HLI HP0
          obtain ⟨t, z, c, mA', mB', ht, rfl, hz, rfl, rfl, HLI, HSI, HPI⟩ := hrel
          by_cases h0 : t = 0
          · subst h0
            have hz0 : ¬ (0 : Int) ≤ z := by omega
            clear hz
            cases c
            · have HD := hid (HPI.out.no rfl)
              go_wp2
              go_ret
              obtain ⟨rfl, rfl, hd⟩ := HD.out
              refine ⟨P, TA, TB, gA, gB, mA', mB', rfl, ?_, ?_⟩
              · rw [HNWE.out]; exact hid (HSI.out.low HX2.out.bel)
              · rw [HNWE.out]
                exact hid fun i v hi hv => ⟨HLI.out.full rfl (fun i h => hd i (Nat.zero_le _) h) hv hi, HLI.out.fullB rfl (fun i h => hd i (Nat.zero_le _) h) hv hi⟩
            · have HD := hid (HPI.out.yes rfl)
              go_wp2
              go_roundg (lacks mB' (64 * nw) x.ins.length)
              case measure => exact HD.out
              case rel => exact ⟨mA', mB', rfl, HLI, HSI⟩
          · obtain ⟨a, rfl⟩ : ∃ a, t = a + 1 := ⟨t - 1, by omega⟩
            obtain rfl : z = (a : Int) := by omega
            clear hz h0
            have a0 : (0 : Int) ≤ (a : Int) := by omega
            have hin : a < x.ins.length := by omega
            obtain ⟨r, hr⟩ := get_some (l := x.ins) rfl hin
            have hf := HF.out r (List.mem_of_getElem? hr)
            by_cases hD : Done x (64 * nw) mA' mB' a
            · have HAS := hid (ask_no a r HSI.out HLI.out hr HC2.out rfl hin hf.2.2 HW.out HNW.out HN.out hD)
              have HPS := hid (HPI.out.still hD)
              clear hr hf hD HSI
              cases c
              all_goals
                go_wp2_with (go_at_call 26; refine HAS.out.mono ?_; rintro e w9 ⟨rfl, h9⟩; have HS9 := hid h9.out; clear h9)
                go_roundg (0 + a)
                case measure => omega
                case rel => exact ⟨a, _, _, mA', mB', by omega, rfl, rfl, rfl, rfl, HLI, HS9, HPS⟩
            · have HAS := hid (ask_yes a r HSI.out HLI.out hr HC2.out rfl hin hf.2.2 HW.out HNW.out HN.out hD)
              clear hr hf hD HSI
              go_wp2_with (go_at_call 26; refine HAS.out.mono ?_; rintro e w9 ⟨rfl, mA2, mB2, h9, hl9, hk9⟩; have HS9 := hid h9.out; have HL9 := hid hl9.out; have HPS := hid (HPI.out.more (mA2 := mA2) hk9.out); clear h9 hl9 hk9)
              go_roundg (0 + a)
              case measure => omega
              case rel => exact ⟨a, _, true, mA2, mB2, by omega, rfl, rfl, rfl, rfl, HL9, HS9, HPS⟩
end Go.Proofs.YtlbcinanpnjjjaaDoor
