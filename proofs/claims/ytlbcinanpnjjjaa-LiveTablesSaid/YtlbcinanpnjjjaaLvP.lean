/- Behind which a variable is asked, and the table of all, by the reference. Conditions: at most 150 instructions, at most 80 variables, what is read and written are variables. -/
import Derived.Test.YtlbcinanpnjjjaaLvO
namespace Go.Proofs.Ytlbcinanpnjjjaa
open Go.RowKit Go.Maps
set_option linter.unusedVariables false
set_option linter.unusedSimpArgs false
theorem info37 : (Try.prog.info? 37).map (fun i => (i.zero, i.size, i.bytes)) = some (some (.slice none 0 0), 1, 24) := by kernel_rfl
theorem BlM.put {W : World} {g n : Nat} {m m' : Met} (h : BlM W g n m) (k : Nat) (b : Bool) (he : ∀ y, y < n → m' y = if y = k then b else m y) : BlM (W.setCell ⟨g, k, none⟩ (.bool b)) g n m' := by
  obtain ⟨cs, h1, h2, h3⟩ := h
  refine ⟨_, set_here h1 k _, by simp [h2], fun i hi => ?_⟩
  rw [Array.getElem?_setIfInBounds, he i hi]
  by_cases hik : k = i
  · subst hik
    simp [h2, hi]
  · rw [if_neg hik, h3 i hi, if_neg (fun e => hik e.symm)]
/-- What Behind leaves. -/
def BehindP (x : CoD) (v : Nat) (w : World) (e : Ending) (w' : World) : Prop :=
  ∃ G out, e = .returned (.slice (some ⟨G, 0, none⟩) x.ins.length x.ins.length) ∧ Hid (BlM w' G x.ins.length out) ∧ Hid (∀ y, y < x.ins.length → (out y = true ↔ AskB x y v)) ∧ Hid (w.heap.size ≤ G ∧ Below w.heap.size w w')
/-- All below i, and of i the first j. -/
def bhM (x : CoD) (a : Met) (i j : Nat) : Met := fun y => if y < i then (nxE x y).any a else if y = i then anyN (nxE x i) a j else false
theorem bhM_zero (x : CoD) (a : Met) : bhM x a 0 0 = fun _ => false := by
  funext y
  simp [bhM, anyN]
theorem bhM_next {x : CoD} {a : Met} {i j : Nat} (h : (nxE x i).length ≤ j) : bhM x a i j = bhM x a (i + 1) 0 := by
  funext y
  unfold bhM
  by_cases h1 : y < i
  · rw [if_pos h1, if_pos (by omega)]
  · rw [if_neg h1]
    by_cases e : y = i
    · subst e
      rw [if_pos rfl, if_pos (by omega)]
      unfold anyN
      rw [List.take_of_length_le h]
    · rw [if_neg e, if_neg (by omega)]
      split <;> simp [anyN]
theorem bhM_at (x : CoD) (a : Met) (i j : Nat) : bhM x a i j i = anyN (nxE x i) a j := by simp [bhM]
theorem bhM_step {x : CoD} {a : Met} {i j : Nat} {b : Bool} (h : anyN (nxE x i) a (j + 1) = b) : ∀ y, bhM x a i (j + 1) y = if y = i then b else bhM x a i j y := by
  intro y
  by_cases e : y = i
  · subst e
    rw [if_pos rfl, bhM_at, h]
  · rw [if_neg e]
    unfold bhM
    rw [if_neg e, if_neg e]
set_option maxRecDepth 100000 in
set_option maxHeartbeats 16000000 in
theorem rbehind10_f (x : CoD) (v : Nat) (va fa ia : Option Addr) (vc fc ic : Nat) (w : World) (hs : x.ins.length ≤ 150) (hC : RowM 13 InAt w ia x.ins) (hF : Fits x) :
    Calls Try.prog 23 #[.agg (CoV x va vc fa fc ia ic), .int .i64 v] w (BehindP x v w) := by
  obtain ⟨i0t, hti, hz0, hz1, hz2⟩ := info_parts info4
  obtain ⟨w0, hw0⟩ : ∃ w0, w.alloc (.cells (CoV x va vc fa fc ia ic) 30) = w0 := ⟨_, rfl⟩
  have HX : Hid (CX w (CoV x va vc fa fc ia ic) w0) := hid (by subst hw0; exact ⟨below1 _ _, heap_alloc_new _ _⟩)
  have HC0 := hid hC
  have HS := hid hs
  have HAF := hid (rahead_f x v va fa ia vc fc ic w0 hs (hC.later in_stays HX.out.bel) hF)
  have HM : Hid (i0t.bytes * x.ins.length ≤ 281474976710656) := hid (by rw [hz2]; omega)
  have HM3 : Hid (x.ins.length ≤ maxLen) := hid (by unfold maxLen; omega)
  have hcn := HX.out.cn
  clear hC hs hF
  go_enter Try.func23, Try.ntmps23
  go_wp2_with (first
    | (go_at_call 10; refine HAF.out.mono ?_; rintro e w1 ⟨GA, a, rfl, hbl, ha, hb⟩
       have HX1 := hid (HX.out.later hb.out.2)
       have HBA := hid hbl.out
       have HA := hid ha.out
       have hcn1 := HX1.out.cn
       clear hbl ha hb hcn)
    | (at_make; refine wpList_make_full _ rfl _ _ 37 rfl w1.heap.size 4 i0t (.bool false) 1 Try.underlying37 hti hz0 hz1 .i64 .i64 (x.ins.length : Int) (x.ins.length : Int) x.ins.length rfl rfl rfl rfl HM.out HM3.out (Nat.le_refl _) ?_; intro w2 hown hgrow
       have HBW := hid ((Below.refl _ w1).grown hgrow (Nat.le_refl _) (by rintro k e; cases e))
       have HX2 := hid (HX1.out.later HBW.out)
       have HBA2 := hid (HBA.out.later HBW.out)
       have HBL := hid (BlM.made hown)
       have HGG : Hid (GA ≠ w1.heap.size) := hid (by have := HBA.out.lt; omega)
       clear hown hgrow hcn1))
  obtain ⟨G, hG⟩ : ∃ G, w1.heap.size = G := ⟨_, rfl⟩
  have HGL : Hid (w.heap.size ≤ G) := hid (hG ▸ HX1.out.bel.size)
  have HB0 : Hid (BlM w2 G x.ins.length (bhM x a 0 0)) := hid (by rw [bhM_zero, ← hG]; exact HBL.out)
  rw [hG] at HGG ⊢
  clear hw0 HBL HBA HX1 HBW HM HM3 HAF hG
  go_loopg [7] x.ins.length (fun gk v7 wr => ∃ i : Nat, i ≤ x.ins.length ∧ gk = x.ins.length - i ∧ v7 = .int .i64 i ∧ Hid (CX w (CoV x va vc fa fc ia ic) wr) ∧ Hid (BlM wr GA x.ins.length a) ∧ Hid (BlM wr G x.ins.length (bhM x a i 0)))
  case atStart => exact ⟨0, by omega, by omega, rfl, HX2, HBA2, HB0⟩
  case round =>
    clear HX2 HBA2 HB0
    obtain ⟨i, hi, rfl, rfl, HX', HBA, HBO⟩ := hrel
    have n9 : x.ins.length ≤ 150 := HS.out
    have hcn := HX'.out.cn
    by_cases hin : i < x.ins.length
    · have hin' : (i : Int) < (x.ins.length : Int) := by omega
      have i0 : (0 : Int) ≤ (i : Int) := by omega
      obtain ⟨r, hr⟩ := get_some (l := x.ins) rfl hin
      have HC2 : RowM 13 InAt wr ia x.ins := HC0.out.later in_stays HX'.out.bel
      have HNX := rnext8_g x i r va fa ia vc fc ic wr hr (by omega) HC2
      obtain ⟨E, hE⟩ : ∃ E, edgesL x i = E := ⟨_, rfl⟩
      obtain ⟨q, hq⟩ : ∃ q, E.length = q := ⟨_, rfl⟩
      have hq2 : q ≤ 2 := by rw [← hq, ← hE]; exact edges_few x i
      have HNX2 : Hid (Calls Try.prog 13 #[.agg (CoV x va vc fa fc ia ic), .int .i64 i] wr fun e w' => ∃ A c, e = .returned (.slice A q c) ∧ Hid (IntsM w' A E) ∧ Hid (Below wr.heap.size wr w')) := hid (HNX.mono fun e w' ⟨v, he, hi, ho, hb⟩ => by
        obtain ⟨A, c, hv, hA⟩ := hi.out
        rw [hE] at hv hA
        rw [hq] at hv
        exact ⟨A, c, by rw [he, hv], hid hA, hb⟩)
      have HEL := hid hE
      have HQ := hid hq
      have HIN := hid hin
      clear hr hE hq HC2 HNX hin
      go_wp2_with (go_at_call 13; refine HNX2.out.mono ?_; rintro e w5 ⟨A5, c5, rfl, hi5, hb5⟩; have HX5 := hid (HX'.out.later hb5.out); have HBA5 := hid (HBA.out.later hb5.out); have HBO5 := hid (HBO.out.later hb5.out); have HE5 := hid hi5.out; have hcn5 := HX5.out.cn; clear hi5 hb5 hcn)
      clear HX' HBA HBO HNX2 hcn5
      go_loopg [9] q (fun gk v9 wr => ∃ j : Nat, j ≤ q ∧ gk = q - j ∧ v9 = .int .i64 j ∧ Hid (CX w (CoV x va vc fa fc ia ic) wr) ∧ Hid (BlM wr GA x.ins.length a) ∧ Hid (BlM wr G x.ins.length (bhM x a i j)) ∧ Hid (IntsM wr A5 E))
      case atStart => exact ⟨0, by omega, by omega, rfl, HX5, HBA5, HBO5, HE5⟩
      case round =>
        clear HX5 HBA5 HBO5 HE5
        obtain ⟨j, hj, rfl, rfl, HX', HBA, HBO, HE⟩ := hrel
        have hcn := HX'.out.cn
        by_cases hjq : j < q
        · have hjq' : (j : Int) < (q : Int) := by omega
          have j0 : (0 : Int) ≤ (j : Int) := by omega
          obtain ⟨y, hy⟩ := get_some HQ.out hjq
          obtain ⟨z, rfl, hz, hnz⟩ := edges_get (x := x) (k := i) (i := j) (by rw [HEL.out]; exact hy)
          obtain ⟨b, o, rfl, hb1, hc1⟩ := HE.out.2 j z hy
          simp only [IntAt, Nat.mul_one] at hc1
          have z0 : (0 : Int) ≤ (z : Int) := by omega
          have z1 : (z : Int) < (x.ins.length : Int) := by omega
          have HNK := anyN_next (f := a) hnz
          have hca := HBA.out.cell hz
          have hco := HBO.out.cell HIN.out
          have hfo := HBO.out.soft i
          rw [bhM_at] at hco
          have hbG : b ≠ G := HBO.out.notInts hc1
          have HKE : Hid (∀ u : Value, IntsM (wr.setCell ⟨G, i, none⟩ u) (some ⟨b, o, none⟩) E) := hid (fun u => ⟨HE.out.1, fun k' y' hk' => by
            obtain ⟨b', o', e', hl', hc'⟩ := HE.out.2 k' y' hk'
            cases e'
            exact ⟨b, o, rfl, by simpa [World.setCell] using hl', (World.cell?_of_block (a := ⟨b, o + k' * 1, none⟩) (Below.heap_setCell _ _ _ _ hbG)).trans hc'⟩⟩)
          have HKA : Hid (∀ u : Value, BlM (wr.setCell ⟨G, i, none⟩ u) GA x.ins.length a) := hid (fun u => HBA.out.at (Below.heap_setCell _ _ _ _ HGG.out))
          have HKX : Hid (∀ u : Value, CX w (CoV x va vc fa fc ia ic) (wr.setCell ⟨G, i, none⟩ u)) := hid (fun u => ⟨HX'.out.bel.setCell HGL.out _, by
            have hne : w.heap.size ≠ G := by
              intro e
              obtain ⟨cs, p1, -⟩ := HBO.out
              rw [← e, HX'.out.box] at p1
              injection p1 with p1
              injection p1 with _ p1
              exact absurd p1 (by decide)
            exact (Below.heap_setCell _ _ _ _ hne).trans HX'.out.box⟩)
          obtain ⟨c, hc⟩ : ∃ c, anyN (nxE x i) a j = c := ⟨_, rfl⟩
          obtain ⟨d, hd⟩ : ∃ d, a z = d := ⟨_, rfl⟩
          rw [hc, hd] at HNK
          rw [hc] at hco
          rw [hd] at hca
          have HST := hid (bhM_step HNK)
          clear hy hnz hb1 hc hd hz HNK hbG
          cases c
          · go_wp2
            go_roundg (q - (j + 1))
            case measure => omega
            case rel => exact ⟨j + 1, by omega, rfl, rfl, hid (HKX.out _), hid (HKA.out _), hid (HBO.out.put i d (fun y _ => by rw [HST.out y]; simp)), hid (HKE.out _)⟩
          · go_wp2
            go_roundg (q - (j + 1))
            case measure => omega
            case rel => exact ⟨j + 1, by omega, rfl, rfl, hid (HKX.out _), hid (HKA.out _), hid (HBO.out.put i true (fun y _ => by rw [HST.out y]; simp)), hid (HKE.out _)⟩
        · have hjq' : ¬ (j : Int) < (q : Int) := by omega
          have HNE := hid (bhM_next (x := x) (a := a) (i := i) (j := j) (by rw [nxE_len, HEL.out, HQ.out]; omega))
          rw [HNE.out] at HBO
          go_wp2
          go_roundg (x.ins.length - (i + 1))
          case measure => have := HIN.out; omega
          case rel => exact ⟨i + 1, by have := HIN.out; omega, rfl, rfl, HX', HBA, HBO⟩
    · have hin' : ¬ (i : Int) < (x.ins.length : Int) := by omega
      obtain rfl : i = x.ins.length := by omega
      have HE : Hid (∀ y, y < x.ins.length → (bhM x a x.ins.length 0 y = true ↔ AskB x y v)) := hid (fun y hy => by
        unfold bhM
        rw [if_pos hy, List.any_eq_true]
        constructor
        · rintro ⟨j, h1, h2⟩
          exact ⟨j, h1, (HA.out j (nxE_lt h1)).1 h2⟩
        · rintro ⟨j, h1, h2⟩
          exact ⟨j, h1, (HA.out j (nxE_lt h1)).2 h2⟩)
      go_wp2
      go_ret
      exact ⟨G, _, rfl, HBO, HE, hid ⟨HGL.out, HX'.out.bel⟩⟩
end Go.Proofs.Ytlbcinanpnjjjaa
