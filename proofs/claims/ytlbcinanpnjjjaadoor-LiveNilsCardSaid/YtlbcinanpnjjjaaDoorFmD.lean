/- A module that came in, opened. No conditions. -/
import Derived.Test.YtlbcinanpnjjjaaDoorFlB
import Derived.Deep.Slices
import Derived.Deep.Fields
import Derived.ChangeSame
namespace Go.Proofs.YtlbcinanpnjjjaaDoor
open Go.RowKit Go.ChangeShapes Go.WideShapes Go.Deep
set_option linter.unusedVariables false
set_option linter.unusedSimpArgs false
set_option maxRecDepth 100000
section
variable {H : Type} {enc : TypeId × Value → H} {w : World} {base : Nat} {spare : Nat → Bool} {held : Bool}
theorem tr_int {n t : Nat} {k : IntKind} {v : Value} {o : Option (DataW H × List MemPlace)} (ht : Tryd.prog.underlying t = some (.int k)) (h : DataW.trod enc Tryd.prog w base spare held n t [v] = o) (ho : o.isSome = true) : ∃ m, v = .int k m := by
  obtain ⟨y, hy⟩ := Option.isSome_iff_exists.1 ho
  obtain ⟨m, hc, -, -⟩ := DataW.trod_int ht (h.trans hy)
  exact ⟨m, by simpa using hc⟩
theorem tr_str {n t : Nat} {v : Value} {o : Option (DataW H × List MemPlace)} (ht : Tryd.prog.underlying t = some .string) (h : DataW.trod enc Tryd.prog w base spare held n t [v] = o) (ho : o.isSome = true) : ∃ m : ByteArray, v = .string m := by
  obtain ⟨y, hy⟩ := Option.isSome_iff_exists.1 ho
  obtain ⟨m, hc, -, -⟩ := DataW.trod_string ht (h.trans hy)
  exact ⟨m, by simpa using hc⟩
theorem tr_bool {n t : Nat} {v : Value} {o : Option (DataW H × List MemPlace)} (ht : Tryd.prog.underlying t = some .bool) (h : DataW.trod enc Tryd.prog w base spare held n t [v] = o) (ho : o.isSome = true) : ∃ m : Bool, v = .bool m := by
  obtain ⟨y, hy⟩ := Option.isSome_iff_exists.1 ho
  obtain ⟨m, hc, -⟩ := DataW.trod_bool ht (h.trans hy)
  exact ⟨m, by simpa using hc⟩
theorem at_some {α : Type} {l : List α} {i n : Nat} (hl : l.length = n) (hi : i < n) : (l[i]?).isSome = true := by
  rw [List.getElem?_eq_getElem (by omega)]; rfl
theorem sp_none {a : Addr} {v : Value} (h : w.cell? a = some v) : a.spot = none := by
  unfold World.cell? at h
  split at h
  · cases hsp : a.spot with
    | none => rfl
    | some q => simp [hsp] at h
  · cases h
theorem lt_cell {a : Addr} {v : Value} (h : w.cell? a = some v) : a.block < w.heap.size := by
  by_cases hg : a.block < w.heap.size
  · exact hg
  · unfold World.cell? at h
    have hno : w.heap[a.block]? = none := Array.getElem?_eq_none (by omega)
    simp [hno] at h
theorem add_add' (b off i j : Nat) : ((⟨b, off, none⟩ : Addr).add i).add j = ⟨b, off + i + j, none⟩ := by
  unfold Addr.add
  by_cases h1 : i = 0
  · by_cases h2 : j = 0
    · subst h1 h2; rfl
    · subst h1; simp [h2]
  · by_cases h2 : j = 0
    · subst h2; simp [h1]
    · simp [h1, h2]
/-- A slice of whatever is known, once its elements are. -/
theorem open_row {t e k : Nat} {D : Type} (d0 : D) (P : World → Nat → Nat → D → Prop) (ht : Tryd.prog.underlying t = some (.slice e)) (hk : Tryd.prog.cellsOf e = k) (hk0 : 0 < k)
    (hE : ∀ (n : Nat) (cs : List Value) (x : DataW H × List MemPlace), DataW.trod enc Tryd.prog w base spare held n e cs = some x → ∃ d : D, ∀ b o, CellsAt w b o cs.toArray → P w b o d)
    {fuel : Nat} {v : Value} {x : DataW H × List MemPlace} (h : DataW.trod enc Tryd.prog w base spare held fuel t [v] = some x) :
    ∃ (A : Option Addr) (c : Nat) (l : List D), v = .slice A l.length c ∧ RowM k P w A l := by
  rcases open_slice ht h with ⟨h0, -⟩ | ⟨a, len, cap, m, n, D', Pl, hcs, hb, hl, hm, hmm, hx, hi⟩
  · exact ⟨none, 0, [], by simpa using h0, by simp, fun i r hr => by simp at hr⟩
  · have hlm : len ≤ m := by rw [hmm]; split <;> omega
    have each : ∀ i, ∃ d : D, i < len → ∃ cs : List Value, w.cells? base (a.add (i * k)) k = some cs ∧ ∀ b o, CellsAt w b o cs.toArray → P w b o d := by
      intro i
      by_cases hil : i < len
      · obtain ⟨cs', hc, ht'⟩ := hi i (by omega)
        rw [hk] at hc
        obtain ⟨d, hd⟩ := hE _ _ _ ht'
        exact ⟨d, fun _ => ⟨cs', hc, hd⟩⟩
      · exact ⟨d0, fun h => absurd h hil⟩
    obtain ⟨f, hf⟩ := Classical.axiomOfChoice each
    refine ⟨some a, cap, (List.range len).map f, by simpa using hcs, by simp; unfold maxLen at hm; omega, fun i r hr => ?_⟩
    have hil : i < len := by
      have := (List.getElem?_eq_some_iff.1 hr).1
      simpa using this
    rw [List.getElem?_map, List.getElem?_range hil] at hr
    simp at hr
    subst hr
    obtain ⟨cs, hc, hP⟩ := hf i hil
    obtain ⟨_, hcl, hat⟩ := World.cells?_some hc
    have hlen : cs.length = k := by simpa using hcl
    obtain ⟨cs0, hc0, -⟩ := hf 0 (by omega)
    obtain ⟨_, hcl0, hat0⟩ := World.cells?_some hc0
    have hlen0 : cs0.length = k := by simpa using hcl0
    have z0 := hat0 (i := 0) hk0
    rw [Nat.zero_mul, show (a.add 0).add 0 = a by unfold Addr.add; simp] at z0
    have hsp : a.spot = none := sp_none (v := cs0[0]'(by omega)) (by rw [z0]; simp)
    have hlt : a.block < w.heap.size := lt_cell (v := cs0[0]'(by omega)) (by rw [z0]; simp)
    obtain ⟨b, off, sp⟩ := a
    simp only at hsp
    subst hsp
    refine ⟨b, off, rfl, hlt, hP _ _ fun j v hj => ?_⟩
    have hjl := (Array.getElem?_eq_some_iff.1 hj).1
    have e := hat (i := j) (by simp at hjl; omega)
    rw [add_add'] at e
    rw [e]
    simpa using hj
theorem open_intsM {fuel : Nat} {v : Value} {x : DataW H × List MemPlace} (h : DataW.trod enc Tryd.prog w base spare held fuel 27 [v] = some x) :
    ∃ (A : Option Addr) (c : Nat) (l : List Int), v = .slice A l.length c ∧ IntsM w A l := by
  refine open_row 0 IntAt Tryd.underlying27 (by kernel_rfl) (by decide) (fun n cs x hx => ?_) h
  obtain ⟨m, hc, -, -⟩ := DataW.trod_int Tryd.underlying3 hx
  refine ⟨m, fun b o hh => ?_⟩
  have := hh 0 (.int .i64 m) (by rw [hc]; rfl)
  simpa [IntAt] using this
theorem open_ty {fuel : Nat} {cs : List Value} {x : DataW H × List MemPlace} (h : DataW.trod enc Tryd.prog w base spare held fuel 24 cs = some x) : ∃ t : TyD, cs = [.bool t.p, .string t.name] := by
  obtain ⟨us, l, -, -, hlen, hul, hk⟩ := DataW.trod_struct Tryd.underlying24 h
  have c31 : Tryd.prog.cellsOf 24 = 2 := by kernel_rfl
  have c4 : Tryd.prog.cellsOf 4 = 1 := by kernel_rfl
  have c9 : Tryd.prog.cellsOf 9 = 1 := by kernel_rfl
  rw [c31] at hlen
  have hul2 : us.length = 2 := hul
  match cs, hlen with
  | [v0, v1], _ =>
    have f0 : DataW.trod enc Tryd.prog w base spare held l 4 (List.take (Tryd.prog.cellsOf 4) [v0, v1]) = us[0]? := hk 0 _ rfl
    have f1 : DataW.trod enc Tryd.prog w base spare held l 9 (List.take (Tryd.prog.cellsOf 9) [v1]) = us[1]? := hk 1 _ rfl
    rw [c4] at f0
    rw [c9] at f1
    obtain ⟨p, rfl⟩ := tr_bool Tryd.underlying4 f0 (at_some hul2 (by omega))
    obtain ⟨s, rfl⟩ := tr_str Tryd.underlying9 f1 (at_some hul2 (by omega))
    exact ⟨⟨p, s⟩, rfl⟩
theorem open_pos {fuel : Nat} {cs : List Value} {x : DataW H × List MemPlace} (h : DataW.trod enc Tryd.prog w base spare held fuel 51 cs = some x) : ∃ l c : Int, cs = [.int .i64 l, .int .i64 c] := by
  obtain ⟨us, l, -, -, hlen, hul, hk⟩ := DataW.trod_struct Tryd.underlying51 h
  have c45 : Tryd.prog.cellsOf 51 = 2 := by kernel_rfl
  have c3 : Tryd.prog.cellsOf 3 = 1 := by kernel_rfl
  rw [c45] at hlen
  have hul2 : us.length = 2 := hul
  match cs, hlen with
  | [v0, v1], _ =>
    have f0 : DataW.trod enc Tryd.prog w base spare held l 3 (List.take (Tryd.prog.cellsOf 3) [v0, v1]) = us[0]? := hk 0 _ rfl
    have f1 : DataW.trod enc Tryd.prog w base spare held l 3 (List.take (Tryd.prog.cellsOf 3) [v1]) = us[1]? := hk 1 _ rfl
    rw [c3] at f0 f1
    obtain ⟨p, rfl⟩ := tr_int Tryd.underlying3 f0 (at_some hul2 (by omega))
    obtain ⟨s, rfl⟩ := tr_int Tryd.underlying3 f1 (at_some hul2 (by omega))
    exact ⟨p, s, rfl⟩
theorem open_va {fuel : Nat} {cs : List Value} {x : DataW H × List MemPlace} (h : DataW.trod enc Tryd.prog w base spare held fuel 26 cs = some x) : ∃ v : VaD, cs.toArray = VaV v := by
  obtain ⟨us, l, -, -, hlen, hul, hk⟩ := DataW.trod_struct Tryd.underlying26 h
  have c33 : Tryd.prog.cellsOf 26 = 3 := by kernel_rfl
  have c31 : Tryd.prog.cellsOf 24 = 2 := by kernel_rfl
  have c3 : Tryd.prog.cellsOf 3 = 1 := by kernel_rfl
  rw [c33] at hlen
  have hul2 : us.length = 2 := hul
  match cs, hlen with
  | [v0, v1, v2], _ =>
    have f0 : DataW.trod enc Tryd.prog w base spare held l 24 (List.take (Tryd.prog.cellsOf 24) [v0, v1, v2]) = us[0]? := hk 0 _ rfl
    have f1 : DataW.trod enc Tryd.prog w base spare held l 3 (List.take (Tryd.prog.cellsOf 3) [v2]) = us[1]? := hk 1 _ rfl
    rw [c31] at f0
    rw [c3] at f1
    obtain ⟨y0, hy0⟩ := Option.isSome_iff_exists.1 (at_some (l := us) (i := 0) hul2 (by omega))
    obtain ⟨t, ht⟩ := open_ty (cs := [v0, v1]) (f0.trans hy0)
    obtain ⟨s, rfl⟩ := tr_int Tryd.underlying3 f1 (at_some hul2 (by omega))
    simp at ht
    obtain ⟨rfl, rfl⟩ := ht
    exact ⟨⟨t, s⟩, rfl⟩
theorem open_in {fuel : Nat} {cs : List Value} {x : DataW H × List MemPlace} (h : DataW.trod enc Tryd.prog w base spare held fuel 53 cs = some x) :
    ∃ (r : InD) (ao mo : Option Addr) (ac mc : Nat), cs.toArray = InV r ao ac mo mc ∧ InM w r ao mo := by
  obtain ⟨ys, n, -, -, hlen, hyl, hf⟩ := DataW.trod_struct Tryd.underlying53 h
  have h13 : Tryd.prog.cellsOf 53 = 13 := by kernel_rfl
  have c3 : Tryd.prog.cellsOf 3 = 1 := by kernel_rfl
  have c2 : Tryd.prog.cellsOf 2 = 1 := by kernel_rfl
  have c9 : Tryd.prog.cellsOf 9 = 1 := by kernel_rfl
  have c34 : Tryd.prog.cellsOf 27 = 1 := by kernel_rfl
  have c45 : Tryd.prog.cellsOf 51 = 2 := by kernel_rfl
  rw [h13] at hlen
  have hyl12 : ys.length = 12 := hyl
  match cs, hlen with
  | [v0, v1, v2, v3, v4, v5, v6, v7, v8, v9, v10, v11, v12], _ =>
    have f0 : DataW.trod enc Tryd.prog w base spare held n 3 (List.take (Tryd.prog.cellsOf 3) [v0, v1, v2, v3, v4, v5, v6, v7, v8, v9, v10, v11, v12]) = ys[0]? := hf 0 _ rfl
    have f1 : DataW.trod enc Tryd.prog w base spare held n 3 (List.take (Tryd.prog.cellsOf 3) [v1, v2, v3, v4, v5, v6, v7, v8, v9, v10, v11, v12]) = ys[1]? := hf 1 _ rfl
    have f2 : DataW.trod enc Tryd.prog w base spare held n 3 (List.take (Tryd.prog.cellsOf 3) [v2, v3, v4, v5, v6, v7, v8, v9, v10, v11, v12]) = ys[2]? := hf 2 _ rfl
    have f3 : DataW.trod enc Tryd.prog w base spare held n 3 (List.take (Tryd.prog.cellsOf 3) [v3, v4, v5, v6, v7, v8, v9, v10, v11, v12]) = ys[3]? := hf 3 _ rfl
    have f4 : DataW.trod enc Tryd.prog w base spare held n 3 (List.take (Tryd.prog.cellsOf 3) [v4, v5, v6, v7, v8, v9, v10, v11, v12]) = ys[4]? := hf 4 _ rfl
    have f5 : DataW.trod enc Tryd.prog w base spare held n 2 (List.take (Tryd.prog.cellsOf 2) [v5, v6, v7, v8, v9, v10, v11, v12]) = ys[5]? := hf 5 _ rfl
    have f6 : DataW.trod enc Tryd.prog w base spare held n 9 (List.take (Tryd.prog.cellsOf 9) [v6, v7, v8, v9, v10, v11, v12]) = ys[6]? := hf 6 _ rfl
    have f7 : DataW.trod enc Tryd.prog w base spare held n 27 (List.take (Tryd.prog.cellsOf 27) [v7, v8, v9, v10, v11, v12]) = ys[7]? := hf 7 _ rfl
    have f8 : DataW.trod enc Tryd.prog w base spare held n 27 (List.take (Tryd.prog.cellsOf 27) [v8, v9, v10, v11, v12]) = ys[8]? := hf 8 _ rfl
    have f9 : DataW.trod enc Tryd.prog w base spare held n 3 (List.take (Tryd.prog.cellsOf 3) [v9, v10, v11, v12]) = ys[9]? := hf 9 _ rfl
    have f10 : DataW.trod enc Tryd.prog w base spare held n 3 (List.take (Tryd.prog.cellsOf 3) [v10, v11, v12]) = ys[10]? := hf 10 _ rfl
    have f11 : DataW.trod enc Tryd.prog w base spare held n 51 (List.take (Tryd.prog.cellsOf 51) [v11, v12]) = ys[11]? := hf 11 _ rfl
    rw [c3] at f0 f1 f2 f3 f4 f9 f10
    rw [c2] at f5
    rw [c9] at f6
    rw [c34] at f7 f8
    rw [c45] at f11
    obtain ⟨k0, rfl⟩ := tr_int Tryd.underlying3 f0 (at_some hyl12 (by omega))
    obtain ⟨k1, rfl⟩ := tr_int Tryd.underlying3 f1 (at_some hyl12 (by omega))
    obtain ⟨k2, rfl⟩ := tr_int Tryd.underlying3 f2 (at_some hyl12 (by omega))
    obtain ⟨k3, rfl⟩ := tr_int Tryd.underlying3 f3 (at_some hyl12 (by omega))
    obtain ⟨k4, rfl⟩ := tr_int Tryd.underlying3 f4 (at_some hyl12 (by omega))
    obtain ⟨k5, rfl⟩ := tr_int Tryd.underlying2 f5 (at_some hyl12 (by omega))
    obtain ⟨sg, rfl⟩ := tr_str Tryd.underlying9 f6 (at_some hyl12 (by omega))
    obtain ⟨y7, hy7⟩ := Option.isSome_iff_exists.1 (at_some (l := ys) (i := 7) hyl12 (by omega))
    obtain ⟨y8, hy8⟩ := Option.isSome_iff_exists.1 (at_some (l := ys) (i := 8) hyl12 (by omega))
    obtain ⟨ao, ac, xs, rfl, hxs⟩ := open_intsM (f7.trans hy7)
    obtain ⟨mo, mc, ms, rfl, hms⟩ := open_intsM (f8.trans hy8)
    obtain ⟨k9, rfl⟩ := tr_int Tryd.underlying3 f9 (at_some hyl12 (by omega))
    obtain ⟨k10, rfl⟩ := tr_int Tryd.underlying3 f10 (at_some hyl12 (by omega))
    obtain ⟨y11, hy11⟩ := Option.isSome_iff_exists.1 (at_some (l := ys) (i := 11) hyl12 (by omega))
    obtain ⟨p, q, hp⟩ := open_pos (cs := [v11, v12]) (f11.trans hy11)
    simp at hp
    obtain ⟨rfl, rfl⟩ := hp
    exact ⟨⟨k0, k1, k2, k3, k9, k10, k4, k5, p, q, sg, xs, ms⟩, ao, mo, ac, mc, rfl, hxs, hms⟩
theorem open_co {fuel : Nat} {cs : List Value} {x : DataW H × List MemPlace} (h : DataW.trod enc Tryd.prog w base spare held fuel 30 cs = some x) :
    ∃ (c : CoD) (va fa ia : Option Addr) (vc fc ic : Nat), cs.toArray = CoV c va vc fa fc ia ic ∧ CoM w c va fa ia := by
  obtain ⟨us, l, -, -, hlen, hul, hk⟩ := DataW.trod_struct Tryd.underlying30 h
  have c37 : Tryd.prog.cellsOf 30 = 8 := by kernel_rfl
  have c29 : Tryd.prog.cellsOf 22 = 1 := by kernel_rfl
  have c33 : Tryd.prog.cellsOf 26 = 3 := by kernel_rfl
  have c34 : Tryd.prog.cellsOf 27 = 1 := by kernel_rfl
  have c35 : Tryd.prog.cellsOf 28 = 1 := by kernel_rfl
  have c3 : Tryd.prog.cellsOf 3 = 1 := by kernel_rfl
  have c9 : Tryd.prog.cellsOf 9 = 1 := by kernel_rfl
  rw [c37] at hlen
  have hul2 : us.length = 6 := hul
  match cs, hlen with
  | [v0, v1, v2, v3, v4, v5, v6, v7], _ =>
    have f0 : DataW.trod enc Tryd.prog w base spare held l 9 (List.take (Tryd.prog.cellsOf 9) [v0, v1, v2, v3, v4, v5, v6, v7]) = us[0]? := hk 0 _ rfl
    have f1 : DataW.trod enc Tryd.prog w base spare held l 3 (List.take (Tryd.prog.cellsOf 3) [v1, v2, v3, v4, v5, v6, v7]) = us[1]? := hk 1 _ rfl
    have f2 : DataW.trod enc Tryd.prog w base spare held l 22 (List.take (Tryd.prog.cellsOf 22) [v2, v3, v4, v5, v6, v7]) = us[2]? := hk 2 _ rfl
    have f3 : DataW.trod enc Tryd.prog w base spare held l 26 (List.take (Tryd.prog.cellsOf 26) [v3, v4, v5, v6, v7]) = us[3]? := hk 3 _ rfl
    have f4 : DataW.trod enc Tryd.prog w base spare held l 27 (List.take (Tryd.prog.cellsOf 27) [v6, v7]) = us[4]? := hk 4 _ rfl
    have f5 : DataW.trod enc Tryd.prog w base spare held l 28 (List.take (Tryd.prog.cellsOf 28) [v7]) = us[5]? := hk 5 _ rfl
    rw [c9] at f0
    rw [c3] at f1
    rw [c29] at f2
    rw [c33] at f3
    rw [c34] at f4
    rw [c35] at f5
    obtain ⟨s, rfl⟩ := tr_str Tryd.underlying9 f0 (at_some hul2 (by omega))
    obtain ⟨pr, rfl⟩ := tr_int Tryd.underlying3 f1 (at_some hul2 (by omega))
    obtain ⟨y2, hy2⟩ := Option.isSome_iff_exists.1 (at_some (l := us) (i := 2) hul2 (by omega))
    obtain ⟨va, vc, vs, rfl, hvs⟩ := open_row ⟨⟨false, ⟨#[]⟩⟩, 0⟩ VaAt Tryd.underlying22 (k := 3) (by kernel_rfl) (by decide) (fun n cs x hx => by
      obtain ⟨v, hv⟩ := open_va hx
      exact ⟨v, fun b o hh => by rw [hv] at hh; exact hh⟩) (f2.trans hy2)
    obtain ⟨y3, hy3⟩ := Option.isSome_iff_exists.1 (at_some (l := us) (i := 3) hul2 (by omega))
    obtain ⟨rt, hrt⟩ := open_va (cs := [v3, v4, v5]) (f3.trans hy3)
    obtain ⟨y4, hy4⟩ := Option.isSome_iff_exists.1 (at_some (l := us) (i := 4) hul2 (by omega))
    obtain ⟨fa, fc, fr, rfl, hfr⟩ := open_intsM (f4.trans hy4)
    obtain ⟨y5, hy5⟩ := Option.isSome_iff_exists.1 (at_some (l := us) (i := 5) hul2 (by omega))
    obtain ⟨ia, ic, is, rfl, his⟩ := open_row ⟨0, 0, 0, 0, 0, 0, 0, 0, 0, 0, ⟨#[]⟩, [], []⟩ InAt Tryd.underlying28 (k := 13) (by kernel_rfl) (by decide) (fun n cs x hx => by
      obtain ⟨r, ao, mo, ac, mc, hv, hm⟩ := open_in hx
      exact ⟨r, fun b o hh => ⟨ao, ac, mo, mc, by rw [hv] at hh; exact hh, hm⟩⟩) (f5.trans hy5)
    simp at hrt
    obtain ⟨rfl, rfl, rfl⟩ := hrt
    exact ⟨⟨s, pr, vs, rt, fr, is⟩, va, fa, ia, vc, fc, ic, rfl, hvs, hfr, his⟩
end
end Go.Proofs.YtlbcinanpnjjjaaDoor
