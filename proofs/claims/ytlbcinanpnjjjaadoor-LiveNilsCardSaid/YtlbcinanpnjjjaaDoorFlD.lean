/- The edges of an instruction, by the reference. Condition: fewer than a million instructions. -/
import Derived.Test.YtlbcinanpnjjjaaDoorFlC
import Derived.Maps.AppendAt
import Derived.Lib.SliceRun
namespace Go.Proofs.YtlbcinanpnjjjaaDoor
open Go.RowKit Go.Maps
set_option linter.unusedVariables false
set_option linter.unusedSimpArgs false
theorem info3 : (Tryd.prog.info? 3).map (fun i => (i.zero, i.size, i.bytes)) = some (some (.int .i64 0), 1, 8) := by kernel_rfl
theorem neg_form {y : Int} (h : y < 0) : ∃ j : Nat, y = Int.negSucc j := by
  cases y with
  | ofNat n => exact absurd h (by simp)
  | negSucc j => exact ⟨j, rfl⟩
/-- The edges of an instruction. -/
def edgesL (x : CoD) (k : Nat) : List Int := match x.ins[k]? with | some r => (nextL r k).filter (inN x.ins.length) | none => []
theorem next_few (r : InD) (q : Int) : (nextL r q).length ≤ 2 := by
  unfold nextL
  split
  · simp
  split
  · split <;> simp
  split <;> simp
theorem row_dalloc {W : World} {base n e size k : Nat} {v : Value} {xs : List Value} (h : W.ownsRow base e size v n xs) (o : Obj) : ((W.drewN k).alloc o).ownsRow base e size v n xs :=
  (show (W.drewN k).ownsRow base e size v n xs from h).alloc o
theorem row_low {W : World} {base base' n e size : Nat} {v : Value} {xs : List Value} (h : W.ownsRow base e size v n xs) (hb : base' ≤ base) : W.ownsRow base' e size v n xs := by
  refine ⟨h.1, h.2.imp id ?_⟩
  rintro ⟨g, cap, cur, e, h1, h2⟩
  exact ⟨g, cap, cur, e, by omega, h2⟩
/-- What a row of the call's own holds. -/
abbrev OwnInts (W : World) (base : Nat) (v : Value) (L : List Int) : Prop := W.ownsRow base 3 1 v L.length (L.map (Value.int .i64))
set_option maxRecDepth 100000 in
set_option maxHeartbeats 8000000 in
theorem rnext8_g (x : CoD) (k : Nat) (r : InD) (va fa ia : Option Addr) (vc fc ic : Nat) (w : World) (hr : x.ins[k]? = some r) (hk : k < 1000000) (hC : RowM 13 InAt w ia x.ins) :
    Calls Tryd.prog 47 #[.agg (CoV x va vc fa fc ia ic), .int .i64 k] w fun e w' => ∃ v, e = .returned v ∧ Hid (IsInts w' v (edgesL x k)) ∧ Hid (OwnInts w' w.heap.size v (edgesL x k)) ∧ Hid (Below w.heap.size w w') := by
  obtain ⟨bi, oi, rfl, hbi, ao, ac, mo, mc, hci, him⟩ := hC.2 k r hr
  have kl : k < x.ins.length := (List.getElem?_eq_some_iff.1 hr).1
  have il : (x.ins.length : Int) ≤ 9223372036854775807 := by have := hC.1; omega
  have k0 : (0 : Int) ≤ (k : Int) := by omega
  have k1 : (k : Int) < (x.ins.length : Int) := by omega
  have HB := hid (below1 w (.cells (CoV x va vc fa fc (some ⟨bi, oi, none⟩) ic) 30))
  have HX := hid (heap_alloc_new w (.cells (CoV x va vc fa fc (some ⟨bi, oi, none⟩) ic) 30))
  have d0 : ∀ o : Obj, (w.alloc o).cell? ⟨bi, oi + k * 13, none⟩ = some (.int .i64 r.op) := fun o => cell_keep (below1 w o) hbi (hci 0 _ rfl)
  have d1 : ∀ o : Obj, (w.alloc o).cell? ⟨bi, oi + k * 13 + 1, none⟩ = some (.int .i64 r.d) := fun o => cell_keep (below1 w o) hbi (hci 1 _ rfl)
  have d2 : ∀ o : Obj, (w.alloc o).cell? ⟨bi, oi + k * 13 + 2, none⟩ = some (.int .i64 r.a) := fun o => cell_keep (below1 w o) hbi (hci 2 _ rfl)
  have d3 : ∀ o : Obj, (w.alloc o).cell? ⟨bi, oi + k * 13 + 3, none⟩ = some (.int .i64 r.b) := fun o => cell_keep (below1 w o) hbi (hci 3 _ rfl)
  have d4 : ∀ o : Obj, (w.alloc o).cell? ⟨bi, oi + k * 13 + 4, none⟩ = some (.int .i64 r.f) := fun o => cell_keep (below1 w o) hbi (hci 4 _ rfl)
  have d5 : ∀ o : Obj, (w.alloc o).cell? ⟨bi, oi + k * 13 + 5, none⟩ = some (.int .i64 r.n) := fun o => cell_keep (below1 w o) hbi (hci 5 _ rfl)
  have d6 : ∀ o : Obj, (w.alloc o).cell? ⟨bi, oi + k * 13 + 6, none⟩ = some (.string r.sg) := fun o => cell_keep (below1 w o) hbi (hci 6 _ rfl)
  have d7 : ∀ o : Obj, (w.alloc o).cell? ⟨bi, oi + k * 13 + 7, none⟩ = some (.slice ao r.xs.length ac) := fun o => cell_keep (below1 w o) hbi (hci 7 _ rfl)
  have d8 : ∀ o : Obj, (w.alloc o).cell? ⟨bi, oi + k * 13 + 8, none⟩ = some (.slice mo r.ms.length mc) := fun o => cell_keep (below1 w o) hbi (hci 8 _ rfl)
  have d9 : ∀ o : Obj, (w.alloc o).cell? ⟨bi, oi + k * 13 + 9, none⟩ = some (.int .i64 r.tt) := fun o => cell_keep (below1 w o) hbi (hci 9 _ rfl)
  have d10 : ∀ o : Obj, (w.alloc o).cell? ⟨bi, oi + k * 13 + 10, none⟩ = some (.int .i64 r.el) := fun o => cell_keep (below1 w o) hbi (hci 10 _ rfl)
  have d11 : ∀ o : Obj, (w.alloc o).cell? ⟨bi, oi + k * 13 + 11, none⟩ = some (.int .i64 r.l) := fun o => cell_keep (below1 w o) hbi (hci 11 _ rfl)
  have d12 : ∀ o : Obj, (w.alloc o).cell? ⟨bi, oi + k * 13 + 12, none⟩ = some (.int .i64 r.c) := fun o => cell_keep (below1 w o) hbi (hci 12 _ rfl)
  have HE := hid (show edgesL x k = (nextL r k).filter (inN x.ins.length) by rw [edgesL, hr])
  have HNX := hid (fun W => rnext_g r k (by omega) (by omega) ao mo ac mc W)
  obtain ⟨i0t, hti, hz0, hz1, hz2⟩ := info_parts info3
  clear hr hC hci him hbi
  go_enter Tryd.func47, Tryd.ntmps47
  go_wp2_with (first
    | (go_at_call 53; refine (HNX.out _).mono ?_; rintro e w5 ⟨v5, rfl, hi5, hb5⟩; have HB5 := hid (after HB.out hb5.out HB.out.size); have HX5 := hid (lay hb5.out HX.out); have HI5 := hid hi5.out; clear hi5 hb5))
  obtain ⟨A, ca, hv, hA⟩ := HI5.out
  obtain ⟨L, hL⟩ : ∃ L, nextL r k = L := ⟨_, rfl⟩
  rw [hL] at hv hA HE
  have hL2 : L.length ≤ 2 := hL ▸ next_few r k
  obtain ⟨m, hm⟩ : ∃ m, L.length = m := ⟨_, rfl⟩
  have HM := hid hm
  rw [hm] at hv hL2
  subst hv
  have HA := hid hA
  clear HI5 HNX hL hm hA d0 d1 d2 d3 d4 d5 d6 d7 d8 d9 d10 d11 d12
  have HW0 := hid (Below.refl w5.heap.size w5)
  have HR0 : Hid (w5.ownsRow w5.heap.size 3 1 (.slice none 0 0) ((L.take 0).filter (inN x.ins.length)).length (((L.take 0).filter (inN x.ins.length)).map (Value.int .i64))) := hid (World.ownsRow_nil _ _ _ _)
  go_loopg [5, 7] m (fun gk v5 v7 wr => ∃ i : Nat, i ≤ m ∧ gk = m - i ∧ v7 = .int .i64 i ∧ Hid (Below w5.heap.size w5 wr) ∧ Hid (wr.ownsRow w5.heap.size 3 1 v5 ((L.take i).filter (inN x.ins.length)).length (((L.take i).filter (inN x.ins.length)).map (Value.int .i64))))
  case atStart => exact ⟨0, by omega, by omega, rfl, HW0, HR0⟩
  case round =>
    clear HW0 HR0
    obtain ⟨i, hi, rfl, rfl, HW, HR⟩ := hrel
    have hx := cells_at (lay HW.out HX5.out)
    by_cases hlt : i < m
    · have hlt' : (i : Int) < (m : Int) := by omega
      have i0 : (0 : Int) ≤ (i : Int) := by omega
      have m9 : (m : Int) ≤ 9223372036854775807 := by omega
      obtain ⟨y, hy⟩ := get_some HM.out hlt
      obtain ⟨b, o, rfl, hb1, hc1⟩ := (HA.out.later int_stays HW.out).2 i y hy
      simp only [IntAt, Nat.mul_one] at hc1
      have HY := hid hy
      have HT := hid (show L.take (i + 1) = L.take i ++ [y] by rw [List.take_add_one, hy]; rfl)
      clear hy hb1
      by_cases e1 : y < 0
      · have e1' : ¬ (0 : Int) ≤ y := by omega
        have HF := hid (show (L.take (i + 1)).filter (inN x.ins.length) = (L.take i).filter (inN x.ins.length) by rw [HT.out, List.filter_append]; simp [List.filter, inN_f1 e1])
        obtain ⟨j, rfl⟩ : ∃ j : Nat, y = Int.negSucc j := neg_form e1
        go_wp2
        go_quiet (fail)
        go_wp2
        go_roundg (m - (i + 1))
        case measure => omega
        case rel => exact ⟨i + 1, by omega, rfl, rfl, hid (below_drewN HW.out _), hid (by rw [HF.out]; exact HR.out)⟩
      by_cases e2 : (x.ins.length : Int) ≤ y
      · have e2' : ¬ y < (x.ins.length : Int) := by omega
        have HF := hid (show (L.take (i + 1)).filter (inN x.ins.length) = (L.take i).filter (inN x.ins.length) by rw [HT.out, List.filter_append]; simp [List.filter, inN_f2 e2])
        go_wp2
        go_quiet (fail)
        go_wp2
        go_roundg (m - (i + 1))
        case measure => omega
        case rel => exact ⟨i + 1, by omega, rfl, rfl, hid (below_drewN HW.out _), hid (by rw [HF.out]; exact HR.out)⟩
      · have HF := hid (show (L.take (i + 1)).filter (inN x.ins.length) = (L.take i).filter (inN x.ins.length) ++ [y] by rw [HT.out, List.filter_append]; simp [List.filter, inN_t e1 e2])
        have hn : ((L.take i).filter (inN x.ins.length)).length ≤ 2 := by
          have h1 := List.length_filter_le (inN x.ins.length) (L.take i)
          have h2 := List.length_take_le i L
          omega
        obtain ⟨cnt, hcnt⟩ : ∃ c, ((L.take i).filter (inN x.ins.length)).length = c := ⟨_, rfl⟩
        have HCN := hid hcnt
        rw [hcnt] at hn
        have HR' := hid (by have := HR.out; rwa [hcnt] at this)
        clear hcnt
        have G1 : True := trivial
        go_wp2
        go_quiet (fail)
        go_wp2_with (first
          | (at_builtin; have hh := G1; clear G1; go_must (refine wpList_append_own_at _ rfl _ _ 27 rfl w5.heap.size 3 i0t (.int .i64 0) 1 8 Tryd.underlying27 hti hz0 hz1 hz2 rfl (by decide) _ cnt (((L.take i).filter (inN x.ins.length)).map (Value.int .i64)) rfl (row_dalloc HR'.out _) ⟨wr.heap.size, 0, none⟩ 1 1 [.int .i64 y] rfl rfl (one_at _ _ _ (by simp)) (by intro u hu; simp at hu; subst hu; rfl) (by unfold maxLen; omega) (by omega) (by have := HW.out.size; simp; omega) ?_); intro v9 w9 hown9 hgrow9 hnil9 hblk9
             have HO9 := hid hown9
             have HG9 := hid hgrow9
             clear hown9 hgrow9 hnil9 hblk9))
        go_roundg (m - (i + 1))
        case measure => omega
        case rel => exact ⟨i + 1, by omega, rfl, rfl, hid (((below_drewN HW.out _).alloc HW.out.size _).grown HG9.out (by simp; have := HW.out.size; omega) (fun g e => (row_lt HR'.out e).1)), hid (by rw [HF.out, List.length_append, List.map_append, HCN.out]; exact HO9.out)⟩
    · have hlt' : ¬ (i : Int) < (m : Int) := by omega
      obtain rfl : i = m := by omega
      go_wp2
      go_ret
      have h := HR.out
      rw [show L.take i = L from by rw [List.take_of_length_le (by have := HM.out; omega)]] at h
      exact ⟨_, rfl, hid (by
        rw [HE.out]
        exact ints_owns h (by have h1 := List.length_filter_le (inN x.ins.length) L; have := HM.out; omega)), hid (by rw [HE.out]; exact row_low h HB5.out.size), hid (after HB5.out HW.out HB5.out.size)⟩
end Go.Proofs.YtlbcinanpnjjjaaDoor
