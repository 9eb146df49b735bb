/- Where stretches begin, by the program. Condition: fewer than a million instructions. -/
import Derived.Test.YtbmjhkimeeahhaaFlX
import Derived.Deep.DeepCutAuto
namespace Go.Proofs.Ytbmjhkimeeahhaa
open Go.RowKit Go.Maps
set_option linter.unusedVariables false
set_option linter.unusedSimpArgs false
def isJ (r : InD) : Bool := r.op == 16 || r.op == 17 || r.op == 18
/-- What one instruction begins. -/
def begR (n : Nat) (R : Met) (a : Nat) (r : InD) : Met := fun k => isJ r && (k == a + 1 || (R a && (toN n (nextL r a)).contains k))
/-- Where stretches begin, by the first i instructions. -/
def begK (x : CoD) (R : Met) : Nat → Met
  | 0 => fun _ => false
  | i + 1 => fun k => begK x R i k || (k == 0 && i == 0) || (match x.ins[i]? with | some r => begR x.ins.length R i r k | none => false)
theorem BlM.put {W : World} {g n : Nat} {m : Met} (h : BlM W g n m) (k : Nat) (b : Bool) : BlM (W.setCell ⟨g, k, none⟩ (.bool b)) g n (fun y => if y = k then b else m y) := by
  obtain ⟨cs, h1, h2, h3⟩ := h
  refine ⟨_, set_here h1 k _, by simp [h2], fun i hi => ?_⟩
  rw [Array.getElem?_setIfInBounds]
  by_cases hik : k = i
  · subst hik
    simp [h2, hi]
  · rw [if_neg hik, h3 i hi]
    show some (Value.bool (m i)) = some (Value.bool (if i = k then b else m i))
    rw [if_neg (fun e => hik e.symm)]
theorem BlM.congr {W : World} {g n : Nat} {m m' : Met} (h : BlM W g n m) (he : ∀ k, k < n → m' k = m k) : BlM W g n m' := by
  obtain ⟨cs, h1, h2, h3⟩ := h
  exact ⟨cs, h1, h2, fun i hi => by rw [h3 i hi, he i hi]⟩
/-- What holds of memory. -/
structure BK (w : World) (cv : Array Value) (n G Gr : Nat) (R : Met) (W : World) (m : Met) : Prop where
  bel : Below w.heap.size w W
  box : W.heap[w.heap.size]? = some (.cells cv 30 (0, 0))
  bl : BlM W G n m
  rl : BlM W Gr n R
  lo : w.heap.size + 1 ≤ G
  lr : Gr < w.heap.size
section
variable {w W W' : World} {cv : Array Value} {n G Gr : Nat} {R m m' : Met}
theorem BK.later (h : BK w cv n G Gr R W m) (hb : Below W.heap.size W W') : BK w cv n G Gr R W' m :=
  ⟨after h.bel hb h.bel.size, lay hb h.box, h.bl.later hb, h.rl.later hb, h.lo, h.lr⟩
theorem BK.put {k : Nat} {b : Bool} (h : BK w cv n G Gr R W m) (he : ∀ y, y < n → m' y = if y = k then b else m y) : BK w cv n G Gr R (W.setCell ⟨G, k, none⟩ (.bool b)) m' := by
  have hne : ∀ i, i ≠ G → (W.setCell ⟨G, k, none⟩ (.bool b)).heap[i]? = W.heap[i]? := fun i hi => Below.heap_setCell _ _ _ _ hi
  have h1 := h.lo
  have h2 := h.lr
  exact ⟨h.bel.setCell (p := ⟨G, k, none⟩) (by show w.heap.size ≤ G; omega) _, (hne _ (by omega)).trans h.box, (h.bl.put k b).congr he, h.rl.at (hne _ (by omega)), h.lo, h.lr⟩
theorem BK.congr (h : BK w cv n G Gr R W m) (he : ∀ y, y < n → m' y = m y) : BK w cv n G Gr R W m' := ⟨h.bel, h.box, h.bl.congr he, h.rl, h.lo, h.lr⟩
end
def onlyG (G : Nat) (_ : World) (k : Nat) : Prop := k = G
theorem calG_below {G : Nat} {A B : World} (h : Below A.heap.size A B) : CalS (onlyG G) A B := ⟨h.os, h.tape, h.output, h.size, fun k hk _ => h.block k hk, fun k hk => .inl hk⟩
theorem calG_set {G k : Nat} {A : World} {v : Value} : CalS (onlyG G) A (A.setCell ⟨G, k, none⟩ v) := ⟨rfl, rfl, rfl, by simp [World.setCell], fun i hi hf => Below.heap_setCell _ _ _ _ (fun e => hf e), fun k hk => .inl hk⟩
theorem toN_take {n : Nat} {L : List Int} {j : Nat} {y : Int} (h : L[j]? = some y) : toN n (L.take (j + 1)) = toN n (L.take j) ++ (if inN n y then [y.toNat] else []) := by
  rw [List.take_add_one, h]
  cases hy : inN n y <;> simp [toN, List.filter, hy]
/-- The blocks behind a store into one of them. -/
theorem cells_set {W : World} {b t G k : Nat} {vs : Array Value} {v : Value} (h : W.heap[b]? = some (.cells vs t (0, 0))) (hne : b ≠ G) : (W.setCell ⟨G, k, none⟩ v).heap[b]? = some (.cells vs t (0, 0)) :=
  (Below.heap_setCell _ _ _ _ hne).trans h
theorem beg5 (x : CoD) (R : Met) (k : Nat) (b : Bool) (hb : b = (begK x R k k || k == 0)) (y : Nat) : (begK x R k y || (y == 0 && k == 0)) = if y = k then b else begK x R k y := by
  subst hb
  by_cases e : y = k
  · subst e
    rw [if_pos rfl]
    cases (y == 0) <;> simp
  · rw [if_neg e]
    have : (y == 0 && k == 0) = false := by
      cases h1 : (y == 0) <;> cases h2 : (k == 0) <;> simp_all
    rw [this, Bool.or_false]
theorem beg_no {x : CoD} {R : Met} {k : Nat} {r : InD} (hr : x.ins[k]? = some r) (hj : isJ r = false) (y : Nat) : begK x R (k + 1) y = (begK x R k y || (y == 0 && k == 0)) := by
  simp [begK, hr, begR, hj]
theorem beg_yes {x : CoD} {R : Met} {k : Nat} {r : InD} (hr : x.ins[k]? = some r) (hj : isJ r = true) (y : Nat) : begK x R (k + 1) y = ((begK x R k y || (y == 0 && k == 0)) || (y == k + 1) || (R k && (toN x.ins.length (nextL r k)).contains y)) := by
  simp [begK, hr, begR, hj, Bool.or_assoc]
/-- Ahead of the switch. -/
def Mid (w : World) (cv : Array Value) (n Gr : Nat) (R m5 : Met) (B : Nat) (iv : Array Value) (W : World) : Prop := BK w cv n (w.heap.size + 1) Gr R W m5 ∧ W.heap[B]? = some (.cells iv 58 (0, 0))
def BegPost (x : CoD) (R : Met) (w : World) (e : Ending) (w' : World) : Prop := ∃ G, e = .returned (.slice (some ⟨G, 0, none⟩) x.ins.length x.ins.length) ∧ Hid (BlM w' G x.ins.length (begK x R x.ins.length)) ∧ Hid (w.heap.size ≤ G) ∧ Hid (Below w.heap.size w w')
set_option maxRecDepth 100000 in
set_option maxHeartbeats 8000000 in
theorem begins_f (x : CoD) (va fa ia : Option Addr) (vc fc ic : Nat) (w0 w : World) (Gr : Nat) (R : Met) (hs : x.ins.length < 1000000) (hC : RowM 13 InAt w0 ia x.ins) (hold : Below w0.heap.size w0 w) (hR : BlM w Gr x.ins.length R) :
    Calls Try.prog 35 #[.agg (CoV x va vc fa fc ia ic), .slice (some ⟨Gr, 0, none⟩) x.ins.length x.ins.length] w (BegPost x R w) := by
  obtain ⟨i0t, hti, hz0, hz1, hz2⟩ := info_parts info4
  have HX := hid (heap_alloc_new w (.cells (CoV x va vc fa fc ia ic) 30))
  have HB := hid (below1 w (.cells (CoV x va vc fa fc ia ic) 30))
  have hx := cells_at HX.out
  have HM : Hid (i0t.bytes * x.ins.length ≤ 281474976710656) := hid (by rw [hz2]; omega)
  have HM3 : Hid (x.ins.length ≤ maxLen) := hid (by unfold maxLen; omega)
  have HTH : Hid (∀ (k : Int) (r : Bool) (W : World), inN x.ins.length k = r → Calls Try.prog 26 #[.agg #[.string x.nm, .int .i64 x.pr, .slice va x.vs.length vc, .bool x.rt.t.p, .string x.rt.t.name, .int .i64 x.rt.cls, .slice fa x.fr.length fc, .slice ia x.ins.length ic], .int .i64 k] W fun e w' => e = .returned (.bool r) ∧ Hid (Below W.heap.size W w')) :=
    hid (fun k r W hr => there_f x va fa ia vc fc ic k r W hr)
  have HS := hid hs
  have HC := hid hC
  have HO := hid hold
  have HRR := hid hR
  have HRL := hid hR.lt
  clear hs hC hold hR
  go_enter Try.func35, Try.ntmps35
  go_wp2_with (at_make; refine wpList_make_full _ rfl _ _ 34 rfl (w.heap.size + 1) 4 i0t (.bool false) 1 Try.underlying34 hti hz0 hz1 .i64 .i64 (x.ins.length : Int) (x.ins.length : Int) x.ins.length rfl rfl rfl rfl HM.out HM3.out (by simp) ?_; intro w1 hown hgrow
               have HB1 := hid ((Below.refl _ _).grown hgrow (Nat.le_refl _) (by rintro k e; cases e))
               have HBL : Hid (BlM w1 (w.heap.size + 1) x.ins.length (fun _ => false)) := hid (by have := BlM.made hown; rwa [World.size_alloc] at this)
               have hx1 := cells_at (lay HB1.out HX.out)
               clear hown hgrow hx)
  have HK0 : Hid (BK w (CoV x va vc fa fc ia ic) x.ins.length (w.heap.size + 1) Gr R w1 (begK x R 0)) := hid ⟨after HB.out HB1.out HB.out.size, lay HB1.out HX.out, HBL.out, (HRR.out.later HB.out).later HB1.out, Nat.le_refl _, HRL.out⟩
  clear hx1 HBL HB1 HB HX HM HM3 HRR
  go_loopg [17] x.ins.length (fun gk p wr => ∃ k : Nat, k ≤ x.ins.length ∧ gk = x.ins.length - k ∧ p = .int .i64 k ∧ Hid (BK w (CoV x va vc fa fc ia ic) x.ins.length (w.heap.size + 1) Gr R wr (begK x R k)))
  case atStart => exact ⟨0, by omega, by omega, rfl, HK0⟩
  case round =>
    clear HK0
    obtain ⟨k, hk, rfl, rfl, HK⟩ := hrel
    by_cases hlt : k < x.ins.length
    · have hlt' : (k : Int) < (x.ins.length : Int) := by omega
      have k0 : (0 : Int) ≤ (k : Int) := by omega
      have hk6 : (k : Int) < 1000000 := by have := HS.out; omega
      have n9 : (x.ins.length : Int) ≤ 9223372036854775807 := by have := HS.out; omega
      obtain ⟨r, hr⟩ := get_some (l := x.ins) (i := k) rfl hlt
      obtain ⟨bi, oi, rfl, hbi, ao, ac, mo, mc, hci, him⟩ := (HC.out.later in_stays (HO.out.trans (HK.out.bel.mono HO.out.size))).2 k r hr
      have d0 : wr.cell? ⟨bi, oi + k * 13, none⟩ = some (.int .i64 r.op) := hci 0 _ rfl
      have d1 := hci 1 _ rfl
      have d2 := hci 2 _ rfl
      have d3 := hci 3 _ rfl
      have d4 := hci 4 _ rfl
      have d5 := hci 5 _ rfl
      have d6 := hci 6 _ rfl
      have d7 := hci 7 _ rfl
      have d8 := hci 8 _ rfl
      have d9 := hci 9 _ rfl
      have d10 := hci 10 _ rfl
      have d11 := hci 11 _ rfl
      have d12 := hci 12 _ rfl
      have HR := hid hr
      have HX4 := hid (heap_alloc_new wr (.cells (InV r ao ac mo mc) 58))
      have HK4 := hid (HK.out.later (below1 wr (.cells (InV r ao ac mo mc) 58)))
      obtain ⟨L, hL⟩ : ∃ L, nextL r (k : Int) = L := ⟨_, rfl⟩
      have HNC := hid (fun W => by have := next_c r (k : Int) k0 hk6 ao mo ac mc W; rwa [hL] at this)
      have HL := hid hL
      have HNE : Hid (wr.heap.size ≠ w.heap.size + 1) := hid (by have := HK.out.bl.lt; omega)
      clear hL hci him hbi hr
      go_upto_region 5 with (fail)
      go_cut [] (fun wx => Hid (Mid w (CoV x va vc fa fc (some ⟨bi, oi, none⟩) ic) x.ins.length Gr R (fun y => begK x R k y || (y == 0 && k == 0)) wr.heap.size (InV r ao ac mo mc) wx))
      case first =>
        have hcm := HK4.out.bl.cell hlt
        have hfm := HK4.out.bl.soft k
        cases hmb : begK x R k k
        case true =>
          rw [hmb] at hcm
          have HP : Hid (Mid w (CoV x va vc fa fc (some ⟨bi, oi, none⟩) ic) x.ins.length Gr R (fun y => begK x R k y || (y == 0 && k == 0)) wr.heap.size (InV r ao ac mo mc) ((wr.alloc (.cells (InV r ao ac mo mc) 58)).setCell ⟨w.heap.size + 1, k, none⟩ (.bool true))) :=
            hid ⟨HK4.out.put (fun y _ => beg5 x R k true (by rw [hmb]; rfl) y), cells_set HX4.out HNE.out⟩
          clear hmb
          go_wp2
          go_meet
          exact HP
        case false =>
          rw [hmb] at hcm
          by_cases hz : k = 0
          · have HP : Hid (Mid w (CoV x va vc fa fc (some ⟨bi, oi, none⟩) ic) x.ins.length Gr R (fun y => begK x R k y || (y == 0 && k == 0)) wr.heap.size (InV r ao ac mo mc) ((wr.alloc (.cells (InV r ao ac mo mc) 58)).setCell ⟨w.heap.size + 1, k, none⟩ (.bool true))) :=
              hid ⟨HK4.out.put (fun y _ => beg5 x R k true (by rw [hz]; simp) y), cells_set HX4.out HNE.out⟩
            have e0 : ((k : Int) == 0) = true := by simp; omega
            clear hmb hz
            go_wp2
            go_meet
            exact HP
          · have HP : Hid (Mid w (CoV x va vc fa fc (some ⟨bi, oi, none⟩) ic) x.ins.length Gr R (fun y => begK x R k y || (y == 0 && k == 0)) wr.heap.size (InV r ao ac mo mc) ((wr.alloc (.cells (InV r ao ac mo mc) 58)).setCell ⟨w.heap.size + 1, k, none⟩ (.bool false))) :=
              hid ⟨HK4.out.put (fun y _ => beg5 x R k false (by rw [hmb]; simp [hz]) y), cells_set HX4.out HNE.out⟩
            have e0 : ((k : Int) == 0) = false := by simp; omega
            clear hmb hz
            go_wp2
            go_meet
            exact HP
      case rest =>
        have HW5 := hcut
        have hx5 := cells_at HW5.out.2
        clear hcut d0 d1 d2 d3 d4 d5 d6 d7 d8 d9 d10 d11 d12 HK HK4 HX4
        cases h16 : (r.op == 16)
        case true =>
          have hJ := hid (show isJ r = true by simp [isJ, h16])
          by_cases hk1 : k + 1 < x.ins.length
          · have hk1' : (k : Int) + 1 < (x.ins.length : Int) := by omega
            have k10 : (0 : Int) ≤ (k : Int) + 1 := by omega
            have hcm1 := HW5.out.1.bl.cell hk1
            obtain ⟨mv, hmv⟩ : ∃ mv, (begK x R k (k + 1) || (k + 1 == 0 && k == 0)) = mv := ⟨_, rfl⟩
            rw [hmv] at hcm1
            have hfm1 := HW5.out.1.bl.soft (k + 1)
            have HB6 := hid (HW5.out.1.put (k := k + 1) (b := true) (m' := fun y => (begK x R k y || (y == 0 && k == 0)) || (y == k + 1)) (fun y hy => by
              by_cases e : y = k + 1
              · subst e; simp
              · rw [if_neg e, show (y == k + 1) = false by simp [e], Bool.or_false]))
            have HX6 := hid (cells_set (G := w.heap.size + 1) (k := k + 1) (v := .bool true) HW5.out.2 HNE.out)
            have hx6 := cells_at HX6.out
            clear hmv
            go_wp2_with (go_at_call 37; go_must (refine (HNC.out _).mono ?_); rintro e w7 ⟨v7, rfl, hne7, hb7⟩; have HK7 := hid (HB6.out.later hb7.out); obtain ⟨A7, rfl, hed7⟩ := EdM.new (fp := onlyG (w.heap.size + 1)) hne7.out (fun k hk => by have h1 := HB6.out.bl.lt; rw [show k = w.heap.size + 1 from hk]; exact h1); have HD7 := hid hed7; clear hne7 hb7 hed7)
            obtain ⟨q, hq⟩ : ∃ q, L.length = q := ⟨_, rfl⟩
            have HQ := hid hq
            have hq2 : q ≤ 2 := by have := next_few r (k : Int); rw [HL.out, hq] at this; exact this
            rw [hq]
            have HJ0 : Hid (BK w (CoV x va vc fa fc (some ⟨bi, oi, none⟩) ic) x.ins.length (w.heap.size + 1) Gr R w7 (fun y => ((begK x R k y || (y == 0 && k == 0)) || (y == k + 1)) || (R k && (toN x.ins.length (L.take 0)).contains y))) := hid (HK7.out.congr (fun y hy => by simp [toN]))
            clear hq HK7 hx6 HB6
            go_loopg [52] q (fun gj p wi => ∃ j : Nat, j ≤ q ∧ gj = q - j ∧ p = .int .i64 j ∧ Hid (BK w (CoV x va vc fa fc (some ⟨bi, oi, none⟩) ic) x.ins.length (w.heap.size + 1) Gr R wi (fun y => ((begK x R k y || (y == 0 && k == 0)) || (y == k + 1)) || (R k && (toN x.ins.length (L.take j)).contains y))) ∧ Hid (EdM wi (onlyG (w.heap.size + 1)) A7 L))
            case atStart => exact ⟨0, by omega, by omega, rfl, HJ0, HD7⟩
            case round =>
              clear HJ0 HD7
              obtain ⟨j, hj, rfl, rfl, HB, HD⟩ := hrel
              by_cases hjq : j < q
              · have hjq' : (j : Int) < (q : Int) := by omega
                have j0 : (0 : Int) ≤ (j : Int) := by omega
                obtain ⟨y, hy⟩ := get_some HQ.out hjq
                obtain ⟨be, oe, rfl, hcy⟩ := ed_cell HD.out hy
                have HT := hid (toN_take (n := x.ins.length) hy)
                have hrk := HB.out.rl.cell hlt
                have hbx := cells_at HB.out.box
                clear hy
                cases hR : R k
                case false =>
                  rw [hR] at hrk
                  have HRF := hid hR
                  clear hR
                  go_wp2
                  go_roundg (q - (j + 1))
                  case measure => omega
                  case rel => exact ⟨j + 1, by omega, rfl, rfl, hid (HB.out.congr (fun y hy => by simp [HRF.out])), HD⟩
                case true =>
                  rw [hR] at hrk
                  have HRT := hid hR
                  clear hR
                  cases hin : inN x.ins.length y
                  case false =>
                    have HIN := hid hin
                    clear hin
                    go_wp2_with (go_at_call 26; go_must (refine (HTH.out _ _ _ HIN.out).mono ?_); rintro e w8 ⟨rfl, hb8⟩; have HB8 := hid (HB.out.later hb8.out); have HD8 := hid (ed_call HD.out (calG_below hb8.out)); clear hb8)
                    go_roundg (q - (j + 1))
                    case measure => omega
                    case rel => exact ⟨j + 1, by omega, rfl, rfl, hid (HB8.out.congr (fun y hy => by rw [HT.out, HIN.out]; simp)), HD8⟩
                  case true =>
                    obtain ⟨ky, rfl⟩ : ∃ ky : Nat, y = (ky : Int) := ⟨y.toNat, by simp [inN] at hin; omega⟩
                    have hky : ky < x.ins.length := by simp [inN] at hin; omega
                    have ky0 : (0 : Int) ≤ (ky : Int) := by omega
                    have ky1 : (ky : Int) < (x.ins.length : Int) := by omega
                    have HIN := hid hin
                    clear hin
                    go_wp2_with (go_at_call 26; go_must (refine (HTH.out _ _ _ HIN.out).mono ?_); rintro e w8 ⟨rfl, hb8⟩; have HB8 := hid (HB.out.later hb8.out); have HD8 := hid (ed_call HD.out (calG_below hb8.out)); obtain ⟨hv, hch⟩ : ∃ hv, w8.cell? ⟨w.heap.size + 1, ky, none⟩ = some (.bool hv) := ⟨_, HB8.out.bl.cell hky⟩; have hcf := HB8.out.bl.soft ky; clear hb8)
                    go_roundg (q - (j + 1))
                    case measure => omega
                    case rel => exact ⟨j + 1, by omega, rfl, rfl, hid (HB8.out.put (k := ky) (b := true) (fun y hy => by
                      rw [HT.out, HIN.out]
                      by_cases e : y = ky
                      · subst e; simp [HRT.out]
                      · rw [if_neg e]; simp [e])), hid (ed_call HD8.out calG_set)⟩
              · have hjq' : ¬ (j : Int) < (q : Int) := by omega
                have HB9 := hid (HB.out.congr (m' := begK x R (k + 1)) (fun y hy => by rw [beg_yes HR.out hJ.out, HL.out, List.take_of_length_le (by rw [HQ.out]; omega)]))
                go_wp2
                go_roundg (x.ins.length - (k + 1))
                case measure => omega
                case rel => exact ⟨k + 1, by omega, rfl, rfl, HB9⟩
          · have hk1' : ¬ (k : Int) + 1 < (x.ins.length : Int) := by omega
            have HB6 := hid (HW5.out.1.congr (m' := fun y => (begK x R k y || (y == 0 && k == 0)) || (y == k + 1)) (fun y hy => by rw [show (y == k + 1) = false by simp; omega, Bool.or_false]))
            have hx6 := cells_at HW5.out.2
            go_wp2_with (go_at_call 37; go_must (refine (HNC.out _).mono ?_); rintro e w7 ⟨v7, rfl, hne7, hb7⟩; have HK7 := hid (HB6.out.later hb7.out); obtain ⟨A7, rfl, hed7⟩ := EdM.new (fp := onlyG (w.heap.size + 1)) hne7.out (fun k hk => by have h1 := HB6.out.bl.lt; rw [show k = w.heap.size + 1 from hk]; exact h1); have HD7 := hid hed7; clear hne7 hb7 hed7)
            obtain ⟨q, hq⟩ : ∃ q, L.length = q := ⟨_, rfl⟩
            have HQ := hid hq
            have hq2 : q ≤ 2 := by have := next_few r (k : Int); rw [HL.out, hq] at this; exact this
            rw [hq]
            have HJ0 : Hid (BK w (CoV x va vc fa fc (some ⟨bi, oi, none⟩) ic) x.ins.length (w.heap.size + 1) Gr R w7 (fun y => ((begK x R k y || (y == 0 && k == 0)) || (y == k + 1)) || (R k && (toN x.ins.length (L.take 0)).contains y))) := hid (HK7.out.congr (fun y hy => by simp [toN]))
            clear hq HK7 hx6 HB6
            go_loopg [52] q (fun gj p wi => ∃ j : Nat, j ≤ q ∧ gj = q - j ∧ p = .int .i64 j ∧ Hid (BK w (CoV x va vc fa fc (some ⟨bi, oi, none⟩) ic) x.ins.length (w.heap.size + 1) Gr R wi (fun y => ((begK x R k y || (y == 0 && k == 0)) || (y == k + 1)) || (R k && (toN x.ins.length (L.take j)).contains y))) ∧ Hid (EdM wi (onlyG (w.heap.size + 1)) A7 L))
            case atStart => exact ⟨0, by omega, by omega, rfl, HJ0, HD7⟩
            case round =>
              clear HJ0 HD7
              obtain ⟨j, hj, rfl, rfl, HB, HD⟩ := hrel
              by_cases hjq : j < q
              · have hjq' : (j : Int) < (q : Int) := by omega
                have j0 : (0 : Int) ≤ (j : Int) := by omega
                obtain ⟨y, hy⟩ := get_some HQ.out hjq
                obtain ⟨be, oe, rfl, hcy⟩ := ed_cell HD.out hy
                have HT := hid (toN_take (n := x.ins.length) hy)
                have hrk := HB.out.rl.cell hlt
                have hbx := cells_at HB.out.box
                clear hy
                cases hR : R k
                case false =>
                  rw [hR] at hrk
                  have HRF := hid hR
                  clear hR
                  go_wp2
                  go_roundg (q - (j + 1))
                  case measure => omega
                  case rel => exact ⟨j + 1, by omega, rfl, rfl, hid (HB.out.congr (fun y hy => by simp [HRF.out])), HD⟩
                case true =>
                  rw [hR] at hrk
                  have HRT := hid hR
                  clear hR
                  cases hin : inN x.ins.length y
                  case false =>
                    have HIN := hid hin
                    clear hin
                    go_wp2_with (go_at_call 26; go_must (refine (HTH.out _ _ _ HIN.out).mono ?_); rintro e w8 ⟨rfl, hb8⟩; have HB8 := hid (HB.out.later hb8.out); have HD8 := hid (ed_call HD.out (calG_below hb8.out)); clear hb8)
                    go_roundg (q - (j + 1))
                    case measure => omega
                    case rel => exact ⟨j + 1, by omega, rfl, rfl, hid (HB8.out.congr (fun y hy => by rw [HT.out, HIN.out]; simp)), HD8⟩
                  case true =>
                    obtain ⟨ky, rfl⟩ : ∃ ky : Nat, y = (ky : Int) := ⟨y.toNat, by simp [inN] at hin; omega⟩
                    have hky : ky < x.ins.length := by simp [inN] at hin; omega
                    have ky0 : (0 : Int) ≤ (ky : Int) := by omega
                    have ky1 : (ky : Int) < (x.ins.length : Int) := by omega
                    have HIN := hid hin
                    clear hin
                    go_wp2_with (go_at_call 26; go_must (refine (HTH.out _ _ _ HIN.out).mono ?_); rintro e w8 ⟨rfl, hb8⟩; have HB8 := hid (HB.out.later hb8.out); have HD8 := hid (ed_call HD.out (calG_below hb8.out)); obtain ⟨hv, hch⟩ : ∃ hv, w8.cell? ⟨w.heap.size + 1, ky, none⟩ = some (.bool hv) := ⟨_, HB8.out.bl.cell hky⟩; have hcf := HB8.out.bl.soft ky; clear hb8)
                    go_roundg (q - (j + 1))
                    case measure => omega
                    case rel => exact ⟨j + 1, by omega, rfl, rfl, hid (HB8.out.put (k := ky) (b := true) (fun y hy => by
                      rw [HT.out, HIN.out]
                      by_cases e : y = ky
                      · subst e; simp [HRT.out]
                      · rw [if_neg e]; simp [e])), hid (ed_call HD8.out calG_set)⟩
              · have hjq' : ¬ (j : Int) < (q : Int) := by omega
                have HB9 := hid (HB.out.congr (m' := begK x R (k + 1)) (fun y hy => by rw [beg_yes HR.out hJ.out, HL.out, List.take_of_length_le (by rw [HQ.out]; omega)]))
                go_wp2
                go_roundg (x.ins.length - (k + 1))
                case measure => omega
                case rel => exact ⟨k + 1, by omega, rfl, rfl, HB9⟩
        case false =>
          cases h17 : (r.op == 17)
          case true =>
            have hJ := hid (show isJ r = true by simp [isJ, h17])
            by_cases hk1 : k + 1 < x.ins.length
            · have hk1' : (k : Int) + 1 < (x.ins.length : Int) := by omega
              have k10 : (0 : Int) ≤ (k : Int) + 1 := by omega
              have hcm1 := HW5.out.1.bl.cell hk1
              obtain ⟨mv, hmv⟩ : ∃ mv, (begK x R k (k + 1) || (k + 1 == 0 && k == 0)) = mv := ⟨_, rfl⟩
              rw [hmv] at hcm1
              have hfm1 := HW5.out.1.bl.soft (k + 1)
              have HB6 := hid (HW5.out.1.put (k := k + 1) (b := true) (m' := fun y => (begK x R k y || (y == 0 && k == 0)) || (y == k + 1)) (fun y hy => by
                by_cases e : y = k + 1
                · subst e; simp
                · rw [if_neg e, show (y == k + 1) = false by simp [e], Bool.or_false]))
              have HX6 := hid (cells_set (G := w.heap.size + 1) (k := k + 1) (v := .bool true) HW5.out.2 HNE.out)
              have hx6 := cells_at HX6.out
              clear hmv
              go_wp2_with (go_at_call 37; go_must (refine (HNC.out _).mono ?_); rintro e w7 ⟨v7, rfl, hne7, hb7⟩; have HK7 := hid (HB6.out.later hb7.out); obtain ⟨A7, rfl, hed7⟩ := EdM.new (fp := onlyG (w.heap.size + 1)) hne7.out (fun k hk => by have h1 := HB6.out.bl.lt; rw [show k = w.heap.size + 1 from hk]; exact h1); have HD7 := hid hed7; clear hne7 hb7 hed7)
              obtain ⟨q, hq⟩ : ∃ q, L.length = q := ⟨_, rfl⟩
              have HQ := hid hq
              have hq2 : q ≤ 2 := by have := next_few r (k : Int); rw [HL.out, hq] at this; exact this
              rw [hq]
              have HJ0 : Hid (BK w (CoV x va vc fa fc (some ⟨bi, oi, none⟩) ic) x.ins.length (w.heap.size + 1) Gr R w7 (fun y => ((begK x R k y || (y == 0 && k == 0)) || (y == k + 1)) || (R k && (toN x.ins.length (L.take 0)).contains y))) := hid (HK7.out.congr (fun y hy => by simp [toN]))
              clear hq HK7 hx6 HB6
              go_loopg [52] q (fun gj p wi => ∃ j : Nat, j ≤ q ∧ gj = q - j ∧ p = .int .i64 j ∧ Hid (BK w (CoV x va vc fa fc (some ⟨bi, oi, none⟩) ic) x.ins.length (w.heap.size + 1) Gr R wi (fun y => ((begK x R k y || (y == 0 && k == 0)) || (y == k + 1)) || (R k && (toN x.ins.length (L.take j)).contains y))) ∧ Hid (EdM wi (onlyG (w.heap.size + 1)) A7 L))
              case atStart => exact ⟨0, by omega, by omega, rfl, HJ0, HD7⟩
              case round =>
                clear HJ0 HD7
                obtain ⟨j, hj, rfl, rfl, HB, HD⟩ := hrel
                by_cases hjq : j < q
                · have hjq' : (j : Int) < (q : Int) := by omega
                  have j0 : (0 : Int) ≤ (j : Int) := by omega
                  obtain ⟨y, hy⟩ := get_some HQ.out hjq
                  obtain ⟨be, oe, rfl, hcy⟩ := ed_cell HD.out hy
                  have HT := hid (toN_take (n := x.ins.length) hy)
                  have hrk := HB.out.rl.cell hlt
                  have hbx := cells_at HB.out.box
                  clear hy
                  cases hR : R k
                  case false =>
                    rw [hR] at hrk
                    have HRF := hid hR
                    clear hR
                    go_wp2
                    go_roundg (q - (j + 1))
                    case measure => omega
                    case rel => exact ⟨j + 1, by omega, rfl, rfl, hid (HB.out.congr (fun y hy => by simp [HRF.out])), HD⟩
                  case true =>
                    rw [hR] at hrk
                    have HRT := hid hR
                    clear hR
                    cases hin : inN x.ins.length y
                    case false =>
                      have HIN := hid hin
                      clear hin
                      go_wp2_with (go_at_call 26; go_must (refine (HTH.out _ _ _ HIN.out).mono ?_); rintro e w8 ⟨rfl, hb8⟩; have HB8 := hid (HB.out.later hb8.out); have HD8 := hid (ed_call HD.out (calG_below hb8.out)); clear hb8)
                      go_roundg (q - (j + 1))
                      case measure => omega
                      case rel => exact ⟨j + 1, by omega, rfl, rfl, hid (HB8.out.congr (fun y hy => by rw [HT.out, HIN.out]; simp)), HD8⟩
                    case true =>
                      obtain ⟨ky, rfl⟩ : ∃ ky : Nat, y = (ky : Int) := ⟨y.toNat, by simp [inN] at hin; omega⟩
                      have hky : ky < x.ins.length := by simp [inN] at hin; omega
                      have ky0 : (0 : Int) ≤ (ky : Int) := by omega
                      have ky1 : (ky : Int) < (x.ins.length : Int) := by omega
                      have HIN := hid hin
                      clear hin
                      go_wp2_with (go_at_call 26; go_must (refine (HTH.out _ _ _ HIN.out).mono ?_); rintro e w8 ⟨rfl, hb8⟩; have HB8 := hid (HB.out.later hb8.out); have HD8 := hid (ed_call HD.out (calG_below hb8.out)); obtain ⟨hv, hch⟩ : ∃ hv, w8.cell? ⟨w.heap.size + 1, ky, none⟩ = some (.bool hv) := ⟨_, HB8.out.bl.cell hky⟩; have hcf := HB8.out.bl.soft ky; clear hb8)
                      go_roundg (q - (j + 1))
                      case measure => omega
                      case rel => exact ⟨j + 1, by omega, rfl, rfl, hid (HB8.out.put (k := ky) (b := true) (fun y hy => by
                        rw [HT.out, HIN.out]
                        by_cases e : y = ky
                        · subst e; simp [HRT.out]
                        · rw [if_neg e]; simp [e])), hid (ed_call HD8.out calG_set)⟩
                · have hjq' : ¬ (j : Int) < (q : Int) := by omega
                  have HB9 := hid (HB.out.congr (m' := begK x R (k + 1)) (fun y hy => by rw [beg_yes HR.out hJ.out, HL.out, List.take_of_length_le (by rw [HQ.out]; omega)]))
                  go_wp2
                  go_roundg (x.ins.length - (k + 1))
                  case measure => omega
                  case rel => exact ⟨k + 1, by omega, rfl, rfl, HB9⟩
            · have hk1' : ¬ (k : Int) + 1 < (x.ins.length : Int) := by omega
              have HB6 := hid (HW5.out.1.congr (m' := fun y => (begK x R k y || (y == 0 && k == 0)) || (y == k + 1)) (fun y hy => by rw [show (y == k + 1) = false by simp; omega, Bool.or_false]))
              have hx6 := cells_at HW5.out.2
              go_wp2_with (go_at_call 37; go_must (refine (HNC.out _).mono ?_); rintro e w7 ⟨v7, rfl, hne7, hb7⟩; have HK7 := hid (HB6.out.later hb7.out); obtain ⟨A7, rfl, hed7⟩ := EdM.new (fp := onlyG (w.heap.size + 1)) hne7.out (fun k hk => by have h1 := HB6.out.bl.lt; rw [show k = w.heap.size + 1 from hk]; exact h1); have HD7 := hid hed7; clear hne7 hb7 hed7)
              obtain ⟨q, hq⟩ : ∃ q, L.length = q := ⟨_, rfl⟩
              have HQ := hid hq
              have hq2 : q ≤ 2 := by have := next_few r (k : Int); rw [HL.out, hq] at this; exact this
              rw [hq]
              have HJ0 : Hid (BK w (CoV x va vc fa fc (some ⟨bi, oi, none⟩) ic) x.ins.length (w.heap.size + 1) Gr R w7 (fun y => ((begK x R k y || (y == 0 && k == 0)) || (y == k + 1)) || (R k && (toN x.ins.length (L.take 0)).contains y))) := hid (HK7.out.congr (fun y hy => by simp [toN]))
              clear hq HK7 hx6 HB6
              go_loopg [52] q (fun gj p wi => ∃ j : Nat, j ≤ q ∧ gj = q - j ∧ p = .int .i64 j ∧ Hid (BK w (CoV x va vc fa fc (some ⟨bi, oi, none⟩) ic) x.ins.length (w.heap.size + 1) Gr R wi (fun y => ((begK x R k y || (y == 0 && k == 0)) || (y == k + 1)) || (R k && (toN x.ins.length (L.take j)).contains y))) ∧ Hid (EdM wi (onlyG (w.heap.size + 1)) A7 L))
              case atStart => exact ⟨0, by omega, by omega, rfl, HJ0, HD7⟩
              case round =>
                clear HJ0 HD7
                obtain ⟨j, hj, rfl, rfl, HB, HD⟩ := hrel
                by_cases hjq : j < q
                · have hjq' : (j : Int) < (q : Int) := by omega
                  have j0 : (0 : Int) ≤ (j : Int) := by omega
                  obtain ⟨y, hy⟩ := get_some HQ.out hjq
                  obtain ⟨be, oe, rfl, hcy⟩ := ed_cell HD.out hy
                  have HT := hid (toN_take (n := x.ins.length) hy)
                  have hrk := HB.out.rl.cell hlt
                  have hbx := cells_at HB.out.box
                  clear hy
                  cases hR : R k
                  case false =>
                    rw [hR] at hrk
                    have HRF := hid hR
                    clear hR
                    go_wp2
                    go_roundg (q - (j + 1))
                    case measure => omega
                    case rel => exact ⟨j + 1, by omega, rfl, rfl, hid (HB.out.congr (fun y hy => by simp [HRF.out])), HD⟩
                  case true =>
                    rw [hR] at hrk
                    have HRT := hid hR
                    clear hR
                    cases hin : inN x.ins.length y
                    case false =>
                      have HIN := hid hin
                      clear hin
                      go_wp2_with (go_at_call 26; go_must (refine (HTH.out _ _ _ HIN.out).mono ?_); rintro e w8 ⟨rfl, hb8⟩; have HB8 := hid (HB.out.later hb8.out); have HD8 := hid (ed_call HD.out (calG_below hb8.out)); clear hb8)
                      go_roundg (q - (j + 1))
                      case measure => omega
                      case rel => exact ⟨j + 1, by omega, rfl, rfl, hid (HB8.out.congr (fun y hy => by rw [HT.out, HIN.out]; simp)), HD8⟩
                    case true =>
                      obtain ⟨ky, rfl⟩ : ∃ ky : Nat, y = (ky : Int) := ⟨y.toNat, by simp [inN] at hin; omega⟩
                      have hky : ky < x.ins.length := by simp [inN] at hin; omega
                      have ky0 : (0 : Int) ≤ (ky : Int) := by omega
                      have ky1 : (ky : Int) < (x.ins.length : Int) := by omega
                      have HIN := hid hin
                      clear hin
                      go_wp2_with (go_at_call 26; go_must (refine (HTH.out _ _ _ HIN.out).mono ?_); rintro e w8 ⟨rfl, hb8⟩; have HB8 := hid (HB.out.later hb8.out); have HD8 := hid (ed_call HD.out (calG_below hb8.out)); obtain ⟨hv, hch⟩ : ∃ hv, w8.cell? ⟨w.heap.size + 1, ky, none⟩ = some (.bool hv) := ⟨_, HB8.out.bl.cell hky⟩; have hcf := HB8.out.bl.soft ky; clear hb8)
                      go_roundg (q - (j + 1))
                      case measure => omega
                      case rel => exact ⟨j + 1, by omega, rfl, rfl, hid (HB8.out.put (k := ky) (b := true) (fun y hy => by
                        rw [HT.out, HIN.out]
                        by_cases e : y = ky
                        · subst e; simp [HRT.out]
                        · rw [if_neg e]; simp [e])), hid (ed_call HD8.out calG_set)⟩
                · have hjq' : ¬ (j : Int) < (q : Int) := by omega
                  have HB9 := hid (HB.out.congr (m' := begK x R (k + 1)) (fun y hy => by rw [beg_yes HR.out hJ.out, HL.out, List.take_of_length_le (by rw [HQ.out]; omega)]))
                  go_wp2
                  go_roundg (x.ins.length - (k + 1))
                  case measure => omega
                  case rel => exact ⟨k + 1, by omega, rfl, rfl, HB9⟩
          case false =>
            cases h18 : (r.op == 18)
            case true =>
              have hJ := hid (show isJ r = true by simp [isJ, h18])
              by_cases hk1 : k + 1 < x.ins.length
              · have hk1' : (k : Int) + 1 < (x.ins.length : Int) := by omega
                have k10 : (0 : Int) ≤ (k : Int) + 1 := by omega
                have hcm1 := HW5.out.1.bl.cell hk1
                obtain ⟨mv, hmv⟩ : ∃ mv, (begK x R k (k + 1) || (k + 1 == 0 && k == 0)) = mv := ⟨_, rfl⟩
                rw [hmv] at hcm1
                have hfm1 := HW5.out.1.bl.soft (k + 1)
                have HB6 := hid (HW5.out.1.put (k := k + 1) (b := true) (m' := fun y => (begK x R k y || (y == 0 && k == 0)) || (y == k + 1)) (fun y hy => by
                  by_cases e : y = k + 1
                  · subst e; simp
                  · rw [if_neg e, show (y == k + 1) = false by simp [e], Bool.or_false]))
                have HX6 := hid (cells_set (G := w.heap.size + 1) (k := k + 1) (v := .bool true) HW5.out.2 HNE.out)
                have hx6 := cells_at HX6.out
                clear hmv
                go_wp2_with (go_at_call 37; go_must (refine (HNC.out _).mono ?_); rintro e w7 ⟨v7, rfl, hne7, hb7⟩; have HK7 := hid (HB6.out.later hb7.out); obtain ⟨A7, rfl, hed7⟩ := EdM.new (fp := onlyG (w.heap.size + 1)) hne7.out (fun k hk => by have h1 := HB6.out.bl.lt; rw [show k = w.heap.size + 1 from hk]; exact h1); have HD7 := hid hed7; clear hne7 hb7 hed7)
                obtain ⟨q, hq⟩ : ∃ q, L.length = q := ⟨_, rfl⟩
                have HQ := hid hq
                have hq2 : q ≤ 2 := by have := next_few r (k : Int); rw [HL.out, hq] at this; exact this
                rw [hq]
                have HJ0 : Hid (BK w (CoV x va vc fa fc (some ⟨bi, oi, none⟩) ic) x.ins.length (w.heap.size + 1) Gr R w7 (fun y => ((begK x R k y || (y == 0 && k == 0)) || (y == k + 1)) || (R k && (toN x.ins.length (L.take 0)).contains y))) := hid (HK7.out.congr (fun y hy => by simp [toN]))
                clear hq HK7 hx6 HB6
                go_loopg [52] q (fun gj p wi => ∃ j : Nat, j ≤ q ∧ gj = q - j ∧ p = .int .i64 j ∧ Hid (BK w (CoV x va vc fa fc (some ⟨bi, oi, none⟩) ic) x.ins.length (w.heap.size + 1) Gr R wi (fun y => ((begK x R k y || (y == 0 && k == 0)) || (y == k + 1)) || (R k && (toN x.ins.length (L.take j)).contains y))) ∧ Hid (EdM wi (onlyG (w.heap.size + 1)) A7 L))
                case atStart => exact ⟨0, by omega, by omega, rfl, HJ0, HD7⟩
                case round =>
                  clear HJ0 HD7
                  obtain ⟨j, hj, rfl, rfl, HB, HD⟩ := hrel
                  by_cases hjq : j < q
                  · have hjq' : (j : Int) < (q : Int) := by omega
                    have j0 : (0 : Int) ≤ (j : Int) := by omega
                    obtain ⟨y, hy⟩ := get_some HQ.out hjq
                    obtain ⟨be, oe, rfl, hcy⟩ := ed_cell HD.out hy
                    have HT := hid (toN_take (n := x.ins.length) hy)
                    have hrk := HB.out.rl.cell hlt
                    have hbx := cells_at HB.out.box
                    clear hy
                    cases hR : R k
                    case false =>
                      rw [hR] at hrk
                      have HRF := hid hR
                      clear hR
                      go_wp2
                      go_roundg (q - (j + 1))
                      case measure => omega
                      case rel => exact ⟨j + 1, by omega, rfl, rfl, hid (HB.out.congr (fun y hy => by simp [HRF.out])), HD⟩
                    case true =>
                      rw [hR] at hrk
                      have HRT := hid hR
                      clear hR
                      cases hin : inN x.ins.length y
                      case false =>
                        have HIN := hid hin
                        clear hin
                        go_wp2_with (go_at_call 26; go_must (refine (HTH.out _ _ _ HIN.out).mono ?_); rintro e w8 ⟨rfl, hb8⟩; have HB8 := hid (HB.out.later hb8.out); have HD8 := hid (ed_call HD.out (calG_below hb8.out)); clear hb8)
                        go_roundg (q - (j + 1))
                        case measure => omega
                        case rel => exact ⟨j + 1, by omega, rfl, rfl, hid (HB8.out.congr (fun y hy => by rw [HT.out, HIN.out]; simp)), HD8⟩
                      case true =>
                        obtain ⟨ky, rfl⟩ : ∃ ky : Nat, y = (ky : Int) := ⟨y.toNat, by simp [inN] at hin; omega⟩
                        have hky : ky < x.ins.length := by simp [inN] at hin; omega
                        have ky0 : (0 : Int) ≤ (ky : Int) := by omega
                        have ky1 : (ky : Int) < (x.ins.length : Int) := by omega
                        have HIN := hid hin
                        clear hin
                        go_wp2_with (go_at_call 26; go_must (refine (HTH.out _ _ _ HIN.out).mono ?_); rintro e w8 ⟨rfl, hb8⟩; have HB8 := hid (HB.out.later hb8.out); have HD8 := hid (ed_call HD.out (calG_below hb8.out)); obtain ⟨hv, hch⟩ : ∃ hv, w8.cell? ⟨w.heap.size + 1, ky, none⟩ = some (.bool hv) := ⟨_, HB8.out.bl.cell hky⟩; have hcf := HB8.out.bl.soft ky; clear hb8)
                        go_roundg (q - (j + 1))
                        case measure => omega
                        case rel => exact ⟨j + 1, by omega, rfl, rfl, hid (HB8.out.put (k := ky) (b := true) (fun y hy => by
                          rw [HT.out, HIN.out]
                          by_cases e : y = ky
                          · subst e; simp [HRT.out]
                          · rw [if_neg e]; simp [e])), hid (ed_call HD8.out calG_set)⟩
                  · have hjq' : ¬ (j : Int) < (q : Int) := by omega
                    have HB9 := hid (HB.out.congr (m' := begK x R (k + 1)) (fun y hy => by rw [beg_yes HR.out hJ.out, HL.out, List.take_of_length_le (by rw [HQ.out]; omega)]))
                    go_wp2
                    go_roundg (x.ins.length - (k + 1))
                    case measure => omega
                    case rel => exact ⟨k + 1, by omega, rfl, rfl, HB9⟩
              · have hk1' : ¬ (k : Int) + 1 < (x.ins.length : Int) := by omega
                have HB6 := hid (HW5.out.1.congr (m' := fun y => (begK x R k y || (y == 0 && k == 0)) || (y == k + 1)) (fun y hy => by rw [show (y == k + 1) = false by simp; omega, Bool.or_false]))
                have hx6 := cells_at HW5.out.2
                go_wp2_with (go_at_call 37; go_must (refine (HNC.out _).mono ?_); rintro e w7 ⟨v7, rfl, hne7, hb7⟩; have HK7 := hid (HB6.out.later hb7.out); obtain ⟨A7, rfl, hed7⟩ := EdM.new (fp := onlyG (w.heap.size + 1)) hne7.out (fun k hk => by have h1 := HB6.out.bl.lt; rw [show k = w.heap.size + 1 from hk]; exact h1); have HD7 := hid hed7; clear hne7 hb7 hed7)
                obtain ⟨q, hq⟩ : ∃ q, L.length = q := ⟨_, rfl⟩
                have HQ := hid hq
                have hq2 : q ≤ 2 := by have := next_few r (k : Int); rw [HL.out, hq] at this; exact this
                rw [hq]
                have HJ0 : Hid (BK w (CoV x va vc fa fc (some ⟨bi, oi, none⟩) ic) x.ins.length (w.heap.size + 1) Gr R w7 (fun y => ((begK x R k y || (y == 0 && k == 0)) || (y == k + 1)) || (R k && (toN x.ins.length (L.take 0)).contains y))) := hid (HK7.out.congr (fun y hy => by simp [toN]))
                clear hq HK7 hx6 HB6
                go_loopg [52] q (fun gj p wi => ∃ j : Nat, j ≤ q ∧ gj = q - j ∧ p = .int .i64 j ∧ Hid (BK w (CoV x va vc fa fc (some ⟨bi, oi, none⟩) ic) x.ins.length (w.heap.size + 1) Gr R wi (fun y => ((begK x R k y || (y == 0 && k == 0)) || (y == k + 1)) || (R k && (toN x.ins.length (L.take j)).contains y))) ∧ Hid (EdM wi (onlyG (w.heap.size + 1)) A7 L))
                case atStart => exact ⟨0, by omega, by omega, rfl, HJ0, HD7⟩
                case round =>
                  clear HJ0 HD7
                  obtain ⟨j, hj, rfl, rfl, HB, HD⟩ := hrel
                  by_cases hjq : j < q
                  · have hjq' : (j : Int) < (q : Int) := by omega
                    have j0 : (0 : Int) ≤ (j : Int) := by omega
                    obtain ⟨y, hy⟩ := get_some HQ.out hjq
                    obtain ⟨be, oe, rfl, hcy⟩ := ed_cell HD.out hy
                    have HT := hid (toN_take (n := x.ins.length) hy)
                    have hrk := HB.out.rl.cell hlt
                    have hbx := cells_at HB.out.box
                    clear hy
                    cases hR : R k
                    case false =>
                      rw [hR] at hrk
                      have HRF := hid hR
                      clear hR
                      go_wp2
                      go_roundg (q - (j + 1))
                      case measure => omega
                      case rel => exact ⟨j + 1, by omega, rfl, rfl, hid (HB.out.congr (fun y hy => by simp [HRF.out])), HD⟩
                    case true =>
                      rw [hR] at hrk
                      have HRT := hid hR
                      clear hR
                      cases hin : inN x.ins.length y
                      case false =>
                        have HIN := hid hin
                        clear hin
                        go_wp2_with (go_at_call 26; go_must (refine (HTH.out _ _ _ HIN.out).mono ?_); rintro e w8 ⟨rfl, hb8⟩; have HB8 := hid (HB.out.later hb8.out); have HD8 := hid (ed_call HD.out (calG_below hb8.out)); clear hb8)
                        go_roundg (q - (j + 1))
                        case measure => omega
                        case rel => exact ⟨j + 1, by omega, rfl, rfl, hid (HB8.out.congr (fun y hy => by rw [HT.out, HIN.out]; simp)), HD8⟩
                      case true =>
                        obtain ⟨ky, rfl⟩ : ∃ ky : Nat, y = (ky : Int) := ⟨y.toNat, by simp [inN] at hin; omega⟩
                        have hky : ky < x.ins.length := by simp [inN] at hin; omega
                        have ky0 : (0 : Int) ≤ (ky : Int) := by omega
                        have ky1 : (ky : Int) < (x.ins.length : Int) := by omega
                        have HIN := hid hin
                        clear hin
                        go_wp2_with (go_at_call 26; go_must (refine (HTH.out _ _ _ HIN.out).mono ?_); rintro e w8 ⟨rfl, hb8⟩; have HB8 := hid (HB.out.later hb8.out); have HD8 := hid (ed_call HD.out (calG_below hb8.out)); obtain ⟨hv, hch⟩ : ∃ hv, w8.cell? ⟨w.heap.size + 1, ky, none⟩ = some (.bool hv) := ⟨_, HB8.out.bl.cell hky⟩; have hcf := HB8.out.bl.soft ky; clear hb8)
                        go_roundg (q - (j + 1))
                        case measure => omega
                        case rel => exact ⟨j + 1, by omega, rfl, rfl, hid (HB8.out.put (k := ky) (b := true) (fun y hy => by
                          rw [HT.out, HIN.out]
                          by_cases e : y = ky
                          · subst e; simp [HRT.out]
                          · rw [if_neg e]; simp [e])), hid (ed_call HD8.out calG_set)⟩
                  · have hjq' : ¬ (j : Int) < (q : Int) := by omega
                    have HB9 := hid (HB.out.congr (m' := begK x R (k + 1)) (fun y hy => by rw [beg_yes HR.out hJ.out, HL.out, List.take_of_length_le (by rw [HQ.out]; omega)]))
                    go_wp2
                    go_roundg (x.ins.length - (k + 1))
                    case measure => omega
                    case rel => exact ⟨k + 1, by omega, rfl, rfl, HB9⟩
            case false =>
              have HB9 := hid (HW5.out.1.congr (m' := begK x R (k + 1)) (fun y hy => beg_no HR.out (by simp [isJ, h16, h17, h18]) y))
              go_wp2
              go_roundg (x.ins.length - (k + 1))
              case measure => omega
              case rel => exact ⟨k + 1, by omega, rfl, rfl, HB9⟩
    · have hlt' : ¬ (k : Int) < (x.ins.length : Int) := by omega
      obtain rfl : k = x.ins.length := by omega
      go_wp2
      go_ret
      exact ⟨_, rfl, hid HK.out.bl, hid (by omega), hid HK.out.bel⟩
end Go.Proofs.Ytbmjhkimeeahhaa
