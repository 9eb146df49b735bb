/- A function, judged. No conditions but that names and types are right. -/
import Derived.Test.YtfhdiahjfnphkaaCR27
namespace Go.Proofs.Ytfhdiahjfnphkaa
open Go.RowKit Go.Maps
set_option linter.unusedVariables false
set_option linter.unusedSimpArgs false
abbrev stored8 (W : World) (J : Nat) (v3 v4 v5 v6 v7 v8 v9 v10 : Value) : World := (((((((W.setCell ⟨J, 3, none⟩ v3).setCell ⟨J, 4, none⟩ v4).setCell ⟨J, 5, none⟩ v5).setCell ⟨J, 6, none⟩ v6).setCell ⟨J, 7, none⟩ v7).setCell ⟨J, 8, none⟩ v8).setCell ⟨J, 9, none⟩ v9).setCell ⟨J, 10, none⟩ v10
theorem stored8_wrote {W : World} {J : Nat} {a0 a1 a2 b3 b4 b5 b6 b7 b8 b9 b10 : Value} (v3 v4 v5 v6 v7 v8 v9 v10 : Value) (h : W.heap[J]? = some (.cells #[a0, a1, a2, b3, b4, b5, b6, b7, b8, b9, b10] 70 (0, 0))) :
    Wrote J #[a0, a1, a2, v3, v4, v5, v6, v7, v8, v9, v10] W (stored8 W J v3 v4 v5 v6 v7 v8 v9 v10) := by
  have h0 : Wrote J #[a0, a1, a2, b3, b4, b5, b6, b7, b8, b9, b10] W W := ⟨h, Below.refl _ _, rfl, fun _ _ => rfl⟩
  have h1 : Wrote J #[a0, a1, a2, v3, b4, b5, b6, b7, b8, b9, b10] W _ := cast_w (by rfl) (h0.set 3 v3)
  have h2 : Wrote J #[a0, a1, a2, v3, v4, b5, b6, b7, b8, b9, b10] W _ := cast_w (by rfl) (h1.set 4 v4)
  have h3 : Wrote J #[a0, a1, a2, v3, v4, v5, b6, b7, b8, b9, b10] W _ := cast_w (by rfl) (h2.set 5 v5)
  have h4 : Wrote J #[a0, a1, a2, v3, v4, v5, v6, b7, b8, b9, b10] W _ := cast_w (by rfl) (h3.set 6 v6)
  have h5 : Wrote J #[a0, a1, a2, v3, v4, v5, v6, v7, b8, b9, b10] W _ := cast_w (by rfl) (h4.set 7 v7)
  have h6 : Wrote J #[a0, a1, a2, v3, v4, v5, v6, v7, v8, b9, b10] W _ := cast_w (by rfl) (h5.set 8 v8)
  have h7 : Wrote J #[a0, a1, a2, v3, v4, v5, v6, v7, v8, v9, b10] W _ := cast_w (by rfl) (h6.set 9 v9)
  have h8 : Wrote J #[a0, a1, a2, v3, v4, v5, v6, v7, v8, v9, v10] W _ := cast_w (by rfl) (h7.set 10 v10)
  exact h8
theorem owns_keep {W W' : World} {k b n : Nat} {R : Value → Option (DataW Unit × List MemPlace)} {D : DataW Unit} (h : W.ownsMap Try.prog k R b n D) (hb : W'.heap[b]? = W.heap[b]?) : W'.ownsMap Try.prog k R b n D := by
  obtain ⟨es, clock, h1, h2⟩ := h
  exact ⟨es, clock, hb.trans h1, h2⟩
/-- What lies ahead of the judges. -/
structure JB (w0 : World) (J : Nat) (ss : List StD) (cs : List CoD) (sa ca : Option Addr) (B n : Nat) (D : DataW Unit) (W : World) : Prop where
  low : w0.heap.size ≤ J
  below : Below J w0 W ∨ Below w0.heap.size w0 W
  map : W.ownsMap Try.prog 9 (plainElem (H := Unit) Try.prog 3) B n D
  other : B ≠ J
/-- What a judge's work leaves: all but the judge. -/
structure Kept8 (J : Nat) (w w' : World) : Prop where
  below : Below J w w'
  size : w.heap.size ≤ w'.heap.size
  block : ∀ k, k ≠ J → k < w.heap.size → w'.heap[k]? = w.heap[k]?
theorem Kept8.later {J : Nat} {w w' W : World} (h : Kept8 J w w') (hJ : J ≤ w.heap.size) (hb : Below w'.heap.size w' W) : Kept8 J w W :=
  ⟨h.below.trans (hb.mono (Nat.le_trans hJ h.size)), Nat.le_trans h.size hb.size, fun k hk hlt => (hb.block k (Nat.lt_of_lt_of_le hlt h.size)).trans (h.block k hk hlt)⟩
theorem kept8_start {w W : World} {J : Nat} {vs : Array Value} {o : Obj} (hJ : J < w.heap.size) (h : Wrote J vs (w.alloc o) W) : Kept8 J w W :=
  ⟨((below1 w o).mono (Nat.le_of_lt hJ)).trans h.below, by rw [h.size]; simp, fun k hk hlt => (h.block k hk).trans ((below1 w o).block k hlt)⟩
abbrev jV (sa ca : Option Addr) (n m sc cc B : Nat) (v3 v4 v5 v6 v7 v8 v9 v10 : Value) : Array Value := #[.slice sa n sc, .slice ca m cc, .map (some B), v3, v4, v5, v6, v7, v8, v9, v10]
/-- What stands while a judge is at a function. -/
structure CS (w : World) (J N : Nat) (p : JP) (vc fc ic : Nat) (W : World) : Prop where
  kept : Kept8 J w W
  judge : JG W J p
  box : W.heap[N]? = some (.cells (CoV p.x p.va vc p.fa fc p.ia ic) 37 (0, 0))
  lt : N < W.heap.size
theorem CS.step {w : World} {J N : Nat} {p : JP} {vc fc ic : Nat} {W W' : World} (h : CS w J N p vc fc ic W) (hJ : J ≤ w.heap.size) (hb : Below W.heap.size W W') : CS w J N p vc fc ic W' :=
  ⟨h.kept.later hJ hb, h.judge.later hb, lay hb h.box, Nat.lt_of_lt_of_le h.lt hb.size⟩
set_option maxHeartbeats 1000000 in
theorem cs_start (p : JP) (J : Nat) (w0 w : World) (v3 v4 v5 v6 v7 v8 v9 v10 : Value) (hst : RowM 4 StAt w0 p.sa p.ss) (hfn : RowM 8 CoAt w0 p.ca p.cs) (hco : CoM w0 p.x p.va p.fa p.ia) (hb0 : Below w0.heap.size w0 w) (h0J : w0.heap.size ≤ J)
    (hJ : w.heap[J]? = some (.cells (jV p.sa p.ca p.ss.length p.cs.length p.sc p.cc p.B v3 v4 v5 v6 v7 v8 v9 v10) 70 (0, 0))) (hm : w.ownsMap Try.prog 9 (plainElem (H := Unit) Try.prog 3) p.B p.n p.D) (hBJ : p.B ≠ J) (hBl : p.B < w.heap.size) :
    CS w J w.heap.size p p.vc p.fc p.ic (stored8 (w.alloc (.cells (CoV p.x p.va p.vc p.fa p.fc p.ia p.ic) 37)) J (.string p.x.nm) (.int .i64 p.x.pr) (.slice p.va p.x.vs.length p.vc) (.bool p.x.rt.t.p) (.string p.x.rt.t.name) (.int .i64 p.x.rt.cls) (.slice p.fa p.x.fr.length p.fc) (.slice p.ia p.x.ins.length p.ic)) := by
  have hlt := (Array.getElem?_eq_some_iff.1 hJ).1
  have hw := stored8_wrote (.string p.x.nm) (.int .i64 p.x.pr) (.slice p.va p.x.vs.length p.vc) (.bool p.x.rt.t.p) (.string p.x.rt.t.name) (.int .i64 p.x.rt.cls) (.slice p.fa p.x.fr.length p.fc) (.slice p.ia p.x.ins.length p.ic) (old_block (below1 w (.cells (CoV p.x p.va p.vc p.fa p.fc p.ia p.ic) 37)) hlt hJ)
  generalize (stored8 (w.alloc (.cells (CoV p.x p.va p.vc p.fa p.fc p.ia p.ic) 37)) J (.string p.x.nm) (.int .i64 p.x.pr) (.slice p.va p.x.vs.length p.vc) (.bool p.x.rt.t.p) (.string p.x.rt.t.name) (.int .i64 p.x.rt.cls) (.slice p.fa p.x.fr.length p.fc) (.slice p.ia p.x.ins.length p.ic)) = W at hw
  have hk := kept8_start hlt hw
  have hbW : Below w0.heap.size w0 W := hb0.trans (hk.below.mono h0J)
  refine ⟨hk, ⟨hw.here, hst.later st_stays hbW, hfn.later co_stays hbW, hco.later hbW, owns_keep hm (hk.block _ hBJ hBl)⟩, (hw.block _ (by omega)).trans (heap_alloc_new w _), by rw [hw.size]; simp⟩
theorem ask_enter (op : Int) (args : Array Value) (w : World) : Sem.run Try.prog (callFunc (askN op) args) w = .ok (.enter (askN op) args) w := by
  rcases op_all op with rfl | rfl | rfl | rfl | rfl | rfl | rfl | rfl | rfl | rfl | rfl | rfl | rfl | rfl | rfl | rfl | rfl | rfl | h
  iterate 18 (· kernel_rfl)
  rw [askN_else h]
  kernel_rfl
set_option maxRecDepth 100000 in
set_option maxHeartbeats 16000000 in
theorem code_g (p : JP) (J : Nat) (w0 w : World) (v3 v4 v5 v6 v7 v8 v9 v10 : Value) (hk : KO p) (hst : RowM 4 StAt w0 p.sa p.ss) (hfn : RowM 8 CoAt w0 p.ca p.cs) (hco : CoM w0 p.x p.va p.fa p.ia) (hb0 : Below w0.heap.size w0 w) (h0J : w0.heap.size ≤ J)
    (hJ : w.heap[J]? = some (.cells (jV p.sa p.ca p.ss.length p.cs.length p.sc p.cc p.B v3 v4 v5 v6 v7 v8 v9 v10) 70 (0, 0))) (hm : w.ownsMap Try.prog 9 (plainElem (H := Unit) Try.prog 3) p.B p.n p.D) (hBJ : p.B ≠ J) (hBl : p.B < w.heap.size) :
    Calls Try.prog 36 #[.pointer (some ⟨J, 0, none⟩), .agg (CoV p.x p.va p.vc p.fa p.fc p.ia p.ic)] w fun e w' => e = .returned (.int .i64 (codF p.ss p.cs p.x)) ∧ Hid (Kept8 J w w') ∧ Hid (∃ u3 u4 u5 u6 u7 u8 u9 u10, w'.heap[J]? = some (.cells (jV p.sa p.ca p.ss.length p.cs.length p.sc p.cc p.B u3 u4 u5 u6 u7 u8 u9 u10) 70 (0, 0))) := by
  have hlt := (Array.getElem?_eq_some_iff.1 hJ).1
  obtain ⟨Z, hZ⟩ : ∃ Z, codF p.ss p.cs p.x = Z := ⟨_, rfl⟩
  rw [hZ]
  have HZ := hid hZ
  have HK := hid hk
  have HLT := hid (Nat.le_of_lt hlt)
  have hfz := frozen_no (old_block (below1 w (.cells (CoV p.x p.va p.vc p.fa p.fc p.ia p.ic) 37)) hlt hJ)
  have hc := cells_at1 hJ (.cells (CoV p.x p.va p.vc p.fa p.fc p.ia p.ic) 37)
  have HC := hid (cs_start p J w0 w v3 v4 v5 v6 v7 v8 v9 v10 hst hfn hco hb0 h0J hJ hm hBJ hBl)
  have HN := hid (heap_alloc_new w (.cells (CoV p.x p.va p.vc p.fa p.fc p.ia p.ic) 37))
  have HK0 : Hid (Kept8 J w (w.alloc (.cells (CoV p.x p.va p.vc p.fa p.fc p.ia p.ic) 37))) := hid ⟨(below1 w _).mono (Nat.le_of_lt hlt), by simp, fun k _ hk => (below1 w _).block k hk⟩
  have HJ0 : Hid (∃ u3 u4 u5 u6 u7 u8 u9 u10, (w.alloc (.cells (CoV p.x p.va p.vc p.fa p.fc p.ia p.ic) 37)).heap[J]? = some (.cells (jV p.sa p.ca p.ss.length p.cs.length p.sc p.cc p.B u3 u4 u5 u6 u7 u8 u9 u10) 70 (0, 0))) := hid ⟨_, _, _, _, _, _, _, _, lay (below1 w _) hJ⟩
  have vl : (p.x.vs.length : Int) ≤ 9223372036854775807 := by have := hco.vs.1; omega
  have il : (p.x.ins.length : Int) ≤ 9223372036854775807 := by have := hco.ins.1; omega
  clear hk hst hfn hco hb0 h0J hJ hm hBJ hBl hZ hlt
  obtain ⟨ia, hia0⟩ : ∃ ia, p.ia = ia := ⟨_, rfl⟩
  have HIA := hid hia0
  rw [hia0] at hfz hc HC HN HK0 HJ0 ⊢
  clear hia0
  by_cases g1 : (300 : Int) < (p.x.vs.length : Int)
  · go_enter Try.func36, Try.ntmps36
    go_wp2
    go_step3
    go_wp2
    all_goals rw [Exit.noGoto_ret]
    all_goals go_ret
    all_goals exact ⟨by rw [show Z = 2 by rw [← HZ.out, codF, if_pos (.inl (by omega))]]; rfl, HK0, HJ0⟩
  by_cases g2 : (p.x.ins.length : Int) = 0
  · go_enter Try.func36, Try.ntmps36
    go_wp2
    go_step3
    go_wp2
    all_goals rw [Exit.noGoto_ret]
    all_goals go_ret
    all_goals exact ⟨by rw [show Z = 2 by rw [← HZ.out, codF, if_pos (.inr (.inl (by omega)))]]; rfl, HK0, HJ0⟩
  have g2' : ((p.x.ins.length : Int) == 0) = false := by simpa using g2
  by_cases g3 : (3000 : Int) < (p.x.ins.length : Int)
  · go_enter Try.func36, Try.ntmps36
    go_wp2
    go_step3
    go_wp2
    all_goals rw [Exit.noGoto_ret]
    all_goals go_ret
    all_goals exact ⟨by rw [show Z = 2 by rw [← HZ.out, codF, if_pos (.inr (.inr (by omega)))]]; rfl, HK0, HJ0⟩
  have HZ1 : Hid (Z = if p.x.pr < 0 ∨ (p.x.vs.length : Int) < p.x.pr then 15 else if firstJ p.ss p.cs p.x p.x.ins = 0 then (if lastOp p.x.ins < 16 then 15 else 0) else firstJ p.ss p.cs p.x p.x.ins) := hid (by rw [← HZ.out, codF, if_neg (by omega)])
  by_cases g4 : p.x.pr < 0
  · go_enter Try.func36, Try.ntmps36
    go_wp2
    go_step3
    go_wp2
    all_goals rw [Exit.noGoto_ret]
    all_goals go_ret
    all_goals exact ⟨by rw [show Z = 15 by rw [HZ1.out, if_pos (.inl g4)]]; rfl, HK0, HJ0⟩
  by_cases g5 : (p.x.vs.length : Int) < p.x.pr
  · go_enter Try.func36, Try.ntmps36
    go_wp2
    go_step3
    go_wp2
    all_goals rw [Exit.noGoto_ret]
    all_goals go_ret
    all_goals exact ⟨by rw [show Z = 15 by rw [HZ1.out, if_pos (.inr g5)]]; rfl, HK0, HJ0⟩
  have HZ2 : Hid (Z = if firstJ p.ss p.cs p.x p.x.ins = 0 then (if lastOp p.x.ins < 16 then 15 else 0) else firstJ p.ss p.cs p.x p.x.ins) := hid (by rw [HZ1.out, if_neg (by omega)])
  clear HZ HZ1 HK0 HJ0
  obtain ⟨m, hm⟩ : ∃ m, p.x.ins.length = m + 1 := ⟨p.x.ins.length - 1, by omega⟩
  have HM := hid hm
  clear hm
  go_enter Try.func36, Try.ntmps36
  go_wp2
  go_step3
  go_wp2
  obtain ⟨W2, hW2⟩ : ∃ W2, (stored8 (w.alloc (.cells (CoV p.x p.va p.vc p.fa p.fc ia p.ic) 37)) J (.string p.x.nm) (.int .i64 p.x.pr) (.slice p.va p.x.vs.length p.vc) (.bool p.x.rt.t.p) (.string p.x.rt.t.name) (.int .i64 p.x.rt.cls) (.slice p.fa p.x.fr.length p.fc) (.slice ia p.x.ins.length p.ic)) = W2 := ⟨_, rfl⟩
  obtain ⟨N, hN⟩ : ∃ N, Hid (w.heap.size = N) := ⟨_, hid rfl⟩
  rw [hW2] at HC
  simp only [stored8] at hW2
  rw [hW2]
  rw [hN.out] at HC ⊢
  have HJN := hid (show J ≤ N by rw [← hN.out]; exact HLT.out)
  clear hW2 hc hfz HN g2'
  have hc := cells_at HC.out.box
  rw [HIA.out] at hc
  go_step3
  go_wp2
  clear hc
  go_loopg [5, 45] p.x.ins.length (fun gk v5 v45 wr => ∃ k : Nat, k ≤ p.x.ins.length ∧ gk = p.x.ins.length - k ∧ v45 = .int .i64 k ∧ v5 = .int .i64 0 ∧ Hid (CS w J N p p.vc p.fc p.ic wr) ∧ Hid (∀ (i : Nat) u, i < k → p.x.ins[i]? = some u → jF p.ss p.cs p.x u = 0))
  case atStart => exact ⟨0, by omega, by omega, rfl, rfl, HC, hid (fun i u hi => absurd hi (by omega))⟩
  case round =>
    clear HC
    obtain ⟨k, hk, rfl, rfl, rfl, HC, HA⟩ := hrel
    by_cases hlt : k < p.x.ins.length
    · have hlt' : (k : Int) < (p.x.ins.length : Int) := by omega
      have k0 : (0 : Int) ≤ (k : Int) := by omega
      obtain ⟨r, hr⟩ : ∃ r, p.x.ins[k]? = some r := ⟨_, List.getElem?_eq_getElem hlt⟩
      obtain ⟨bi, oi, hia, hbi, ao, ac, mo, mc, hci, him⟩ := HC.out.judge.co.ins.2 k r hr
      have HR := hid hr
      have HX := hid (fun W (hb : Below wr.heap.size wr W) => him.xs.later int_stays hb)
      have e0 : wr.cell? ⟨bi, oi + k * 13, none⟩ = some (.int .i64 r.op) := hci 0 _ rfl
      have e1 : wr.cell? ⟨bi, oi + k * 13 + 1, none⟩ = some (.int .i64 r.d) := hci 1 _ rfl
      have e2 : wr.cell? ⟨bi, oi + k * 13 + 2, none⟩ = some (.int .i64 r.a) := hci 2 _ rfl
      have e3 : wr.cell? ⟨bi, oi + k * 13 + 3, none⟩ = some (.int .i64 r.b) := hci 3 _ rfl
      have e4 : wr.cell? ⟨bi, oi + k * 13 + 4, none⟩ = some (.int .i64 r.f) := hci 4 _ rfl
      have e5 : wr.cell? ⟨bi, oi + k * 13 + 5, none⟩ = some (.int .i64 r.n) := hci 5 _ rfl
      have e6 : wr.cell? ⟨bi, oi + k * 13 + 6, none⟩ = some (.string r.sg) := hci 6 _ rfl
      have e7 : wr.cell? ⟨bi, oi + k * 13 + 7, none⟩ = some (.slice ao r.xs.length ac) := hci 7 _ rfl
      have e8 : wr.cell? ⟨bi, oi + k * 13 + 8, none⟩ = some (.slice mo r.ms.length mc) := hci 8 _ rfl
      have e9 : wr.cell? ⟨bi, oi + k * 13 + 9, none⟩ = some (.int .i64 r.tt) := hci 9 _ rfl
      have e10 : wr.cell? ⟨bi, oi + k * 13 + 10, none⟩ = some (.int .i64 r.el) := hci 10 _ rfl
      have e11 : wr.cell? ⟨bi, oi + k * 13 + 11, none⟩ = some (.int .i64 r.l) := hci 11 _ rfl
      have e12 : wr.cell? ⟨bi, oi + k * 13 + 12, none⟩ = some (.int .i64 r.c) := hci 12 _ rfl
      clear hr hci him hbi
      obtain rfl : ia = some ⟨bi, oi, none⟩ := HIA.out.symm.trans hia
      clear hia
      obtain ⟨op, d, a, b, tt, el, f, n, l, c, sg, xs, ms⟩ := r
      simp only at e0 e1 e2 e3 e4 e5 e6 e7 e8 e9 e10 e11 e12
      obtain ⟨z, hz⟩ : ∃ z, jF p.ss p.cs p.x ⟨op, d, a, b, tt, el, f, n, l, c, sg, xs, ms⟩ = z := ⟨_, rfl⟩
      have HZZ := hid hz
      clear hz
      have HAS := hid (HC.out.step HLT.out (below1 _ (.cells (InV ⟨op, d, a, b, tt, el, f, n, l, c, sg, xs, ms⟩ ao ac mo mc) 49)))
      have HXS := hid (HX.out _ (below1 _ (.cells (InV ⟨op, d, a, b, tt, el, f, n, l, c, sg, xs, ms⟩ ao ac mo mc) 49)))
      have hcf := ask_enter op
      by_cases z0 : z = 0
      all_goals
        go_wp2_with (first
          | (go_at_call 50; refine (asks_g op J _).mono ?_; rintro e w' ⟨rfl, rfl⟩)
          | (refine (meth_at (askN op) p J ⟨op, d, a, b, tt, el, f, n, l, c, sg, xs, ms⟩ ao mo ac mc _ z rfl HZZ.out HAS.out.judge HK.out HXS.out).mono ?_; rintro e w1 ⟨rfl, hb1⟩; have HB := hid (HAS.out.step HLT.out hb1.out); clear hb1))
      · go_roundg (p.x.ins.length - (k + 1))
        case measure => omega
        case rel => exact ⟨k + 1, by omega, rfl, rfl, rfl, HB, hid (fun i u hi hu => by
          by_cases hik : i < k
          · exact HA.out i u hik hu
          · obtain rfl : i = k := by omega
            rw [HR.out] at hu
            cases hu
            exact HZZ.out.trans z0)⟩
      · rw [Exit.noGoto_ret]
        go_ret
        exact ⟨by rw [HZ2.out, first_at HR.out HA.out (by rw [HZZ.out]; exact z0), HZZ.out, if_neg z0]; rfl, hid HB.out.kept, hid ⟨_, _, _, _, _, _, _, _, HB.out.judge.j⟩⟩
    · have hlt' : ¬ (k : Int) < (p.x.ins.length : Int) := by omega
      have hc := cells_at HC.out.box
      obtain ⟨r, hr⟩ : ∃ r, p.x.ins[m]? = some r := ⟨_, List.getElem?_eq_getElem (by have := HM.out; omega)⟩
      have HF0 := hid (first_none (fun i u hi hu => HA.out i u (by omega) hu))
      have hop := jF_op (HA.out m r (by have := HM.out; omega) hr)
      have HLA := hid (last_at HM.out hr)
      obtain ⟨bi, oi, hia, hbi, ao, ac, mo, mc, hci, him⟩ := HC.out.judge.co.ins.2 m r hr
      have e0 : wr.cell? ⟨bi, oi + m * 13, none⟩ = some (.int .i64 r.op) := hci 0 _ rfl
      have HZ3 : Hid (Z = if r.op < 16 then 15 else 0) := hid (by rw [HZ2.out, if_pos HF0.out, HLA.out])
      have hwr : IntKind.i64.wrap ((p.x.ins.length : Int) - 1) = (m : Int) := by rw [IntKind.wrap_i64]; have := HM.out; omega
      have m0 : (0 : Int) ≤ (m : Int) := by omega
      have m1 : (m : Int) < (p.x.ins.length : Int) := by have := HM.out; omega
      obtain rfl : ia = some ⟨bi, oi, none⟩ := HIA.out.symm.trans hia
      rw [hia] at hc
      obtain ⟨op, d, a, b, tt, el, f, n, l, c, sg, xs, ms⟩ := r
      simp only at e0 hop
      clear hr hci him hbi hia
      have HPJ := hid HC.out.judge.j
      have HPK := hid HC.out.kept
      clear HC
      by_cases o16 : op = 16
      · subst o16
        go_wp2
        try rw [Exit.noGoto_ret]
        go_ret
        exact ⟨by rw [HZ3.out]; rfl, HPK, hid ⟨_, _, _, _, _, _, _, _, HPJ.out⟩⟩
      by_cases o17 : op = 17
      · subst o17
        go_wp2
        try rw [Exit.noGoto_ret]
        go_ret
        exact ⟨by rw [HZ3.out]; rfl, HPK, hid ⟨_, _, _, _, _, _, _, _, HPJ.out⟩⟩
      by_cases o18 : op = 18
      · subst o18
        go_wp2
        try rw [Exit.noGoto_ret]
        go_ret
        exact ⟨by rw [HZ3.out]; rfl, HPK, hid ⟨_, _, _, _, _, _, _, _, HPJ.out⟩⟩
      have HZ4 : Hid (Z = 15) := hid (by rw [HZ3.out, if_pos (show op < 16 by omega)])
      go_wp2
      try rw [Exit.noGoto_ret]
      go_ret
      exact ⟨by rw [HZ4.out]; rfl, HPK, hid ⟨_, _, _, _, _, _, _, _, HPJ.out⟩⟩
end Go.Proofs.Ytfhdiahjfnphkaa
