/- A module that came in, opened. No conditions. -/
import Derived.Test.YtfhdiahjfnphkaaCR03
import Derived.Deep.Slices
import Derived.Deep.Fields
import Derived.ChangeSame
namespace Go.Proofs.Ytfhdiahjfnphkaa
open Go.RowKit Go.ChangeShapes Go.WideShapes Go.Deep
set_option linter.unusedVariables false
set_option linter.unusedSimpArgs false
set_option maxRecDepth 100000
section
variable {H : Type} {enc : TypeId × Value → H} {w : World} {base : Nat} {spare : Nat → Bool} {held : Bool}
theorem tr_int {n t : Nat} {k : IntKind} {v : Value} {o : Option (DataW H × List MemPlace)} (ht : Try.prog.underlying t = some (.int k)) (h : DataW.trod enc Try.prog w base spare held n t [v] = o) (ho : o.isSome = true) : ∃ m, v = .int k m := by
  obtain ⟨y, hy⟩ := Option.isSome_iff_exists.1 ho
  obtain ⟨m, hc, -, -⟩ := DataW.trod_int ht (h.trans hy)
  exact ⟨m, by simpa using hc⟩
theorem tr_str {n t : Nat} {v : Value} {o : Option (DataW H × List MemPlace)} (ht : Try.prog.underlying t = some .string) (h : DataW.trod enc Try.prog w base spare held n t [v] = o) (ho : o.isSome = true) : ∃ m : ByteArray, v = .string m := by
  obtain ⟨y, hy⟩ := Option.isSome_iff_exists.1 ho
  obtain ⟨m, hc, -, -⟩ := DataW.trod_string ht (h.trans hy)
  exact ⟨m, by simpa using hc⟩
theorem tr_bool {n t : Nat} {v : Value} {o : Option (DataW H × List MemPlace)} (ht : Try.prog.underlying t = some .bool) (h : DataW.trod enc Try.prog w base spare held n t [v] = o) (ho : o.isSome = true) : ∃ m : Bool, v = .bool m := by
  obtain ⟨y, hy⟩ := Option.isSome_iff_exists.1 ho
  obtain ⟨m, hc, -⟩ := DataW.trod_bool ht (h.trans hy)
  exact ⟨m, by simpa using hc⟩
theorem at_some {α : Type} {l : List α} {i n : Nat} (hl : l.length = n) (hi : i < n) : (l[i]?).isSome = true := by
  rw [List.getElem?_eq_getElem (by omega)]; rfl
theorem sp_none {a : Addr} {v : Value} (h : w.cell? a = some v) : a.spot = none := by
  unfold World.cell? at h
  split at h
  · cases hsp : a.spot with
    | none => rfl
    | some q => simp [hsp] at h
  · cases h
theorem lt_cell {a : Addr} {v : Value} (h : w.cell? a = some v) : a.block < w.heap.size := by
  by_cases hg : a.block < w.heap.size
  · exact hg
  · unfold World.cell? at h
    have hno : w.heap[a.block]? = none := Array.getElem?_eq_none (by omega)
    simp [hno] at h
theorem add_add' (b off i j : Nat) : ((⟨b, off, none⟩ : Addr).add i).add j = ⟨b, off + i + j, none⟩ := by
  unfold Addr.add
  by_cases h1 : i = 0
  · by_cases h2 : j = 0
    · subst h1 h2; rfl
    · subst h1; simp [h2]
  · by_cases h2 : j = 0
    · subst h2; simp [h1]
    · simp [h1, h2]
/-- A slice of whatever is known, once its elements are. -/
theorem open_row {t e k : Nat} {D : Type} (d0 : D) (P : World → Nat → Nat → D → Prop) (ht : Try.prog.underlying t = some (.slice e)) (hk : Try.prog.cellsOf e = k) (hk0 : 0 < k)
    (hE : ∀ (n : Nat) (cs : List Value) (x : DataW H × List MemPlace), DataW.trod enc Try.prog w base spare held n e cs = some x → ∃ d : D, ∀ b o, CellsAt w b o cs.toArray → P w b o d)
    {fuel : Nat} {v : Value} {x : DataW H × List MemPlace} (h : DataW.trod enc Try.prog w base spare held fuel t [v] = some x) :
    ∃ (A : Option Addr) (c : Nat) (l : List D), v = .slice A l.length c ∧ RowM k P w A l := by
  rcases open_slice ht h with ⟨h0, -⟩ | ⟨a, len, cap, m, n, D', Pl, hcs, hb, hl, hm, hmm, hx, hi⟩
  · exact ⟨none, 0, [], by simpa using h0, by simp, fun i r hr => by simp at hr⟩
  · have hlm : len ≤ m := by rw [hmm]; split <;> omega
    have each : ∀ i, ∃ d : D, i < len → ∃ cs : List Value, w.cells? base (a.add (i * k)) k = some cs ∧ ∀ b o, CellsAt w b o cs.toArray → P w b o d := by
      intro i
      by_cases hil : i < len
      · obtain ⟨cs', hc, ht'⟩ := hi i (by omega)
        rw [hk] at hc
        obtain ⟨d, hd⟩ := hE _ _ _ ht'
        exact ⟨d, fun _ => ⟨cs', hc, hd⟩⟩
      · exact ⟨d0, fun h => absurd h hil⟩
    obtain ⟨f, hf⟩ := Classical.axiomOfChoice each
    refine ⟨some a, cap, (List.range len).map f, by simpa using hcs, by simp; unfold maxLen at hm; omega, fun i r hr => ?_⟩
    have hil : i < len := by
      have := (List.getElem?_eq_some_iff.1 hr).1
      simpa using this
    rw [List.getElem?_map, List.getElem?_range hil] at hr
    simp at hr
    subst hr
    obtain ⟨cs, hc, hP⟩ := hf i hil
    obtain ⟨_, hcl, hat⟩ := World.cells?_some hc
    have hlen : cs.length = k := by simpa using hcl
    obtain ⟨cs0, hc0, -⟩ := hf 0 (by omega)
    obtain ⟨_, hcl0, hat0⟩ := World.cells?_some hc0
    have hlen0 : cs0.length = k := by simpa using hcl0
    have z0 := hat0 (i := 0) hk0
    rw [Nat.zero_mul, show (a.add 0).add 0 = a by unfold Addr.add; simp] at z0
    have hsp : a.spot = none := sp_none (v := cs0[0]'(by omega)) (by rw [z0]; simp)
    have hlt : a.block < w.heap.size := lt_cell (v := cs0[0]'(by omega)) (by rw [z0]; simp)
    obtain ⟨b, off, sp⟩ := a
    simp only at hsp
    subst hsp
    refine ⟨b, off, rfl, hlt, hP _ _ fun j v hj => ?_⟩
    have hjl := (Array.getElem?_eq_some_iff.1 hj).1
    have e := hat (i := j) (by simp at hjl; omega)
    rw [add_add'] at e
    rw [e]
    simpa using hj
theorem open_intsM {fuel : Nat} {v : Value} {x : DataW H × List MemPlace} (h : DataW.trod enc Try.prog w base spare held fuel 34 [v] = some x) :
    ∃ (A : Option Addr) (c : Nat) (l : List Int), v = .slice A l.length c ∧ IntsM w A l := by
  refine open_row 0 IntAt Try.underlying34 (by kernel_rfl) (by decide) (fun n cs x hx => ?_) h
  obtain ⟨m, hc, -, -⟩ := DataW.trod_int Try.underlying3 hx
  refine ⟨m, fun b o hh => ?_⟩
  have := hh 0 (.int .i64 m) (by rw [hc]; rfl)
  simpa [IntAt] using this
theorem open_ty {fuel : Nat} {cs : List Value} {x : DataW H × List MemPlace} (h : DataW.trod enc Try.prog w base spare held fuel 31 cs = some x) : ∃ t : TyD, cs = [.bool t.p, .string t.name] := by
  obtain ⟨us, l, -, -, hlen, hul, hk⟩ := DataW.trod_struct Try.underlying31 h
  have c31 : Try.prog.cellsOf 31 = 2 := by kernel_rfl
  have c4 : Try.prog.cellsOf 4 = 1 := by kernel_rfl
  have c9 : Try.prog.cellsOf 9 = 1 := by kernel_rfl
  rw [c31] at hlen
  have hul2 : us.length = 2 := hul
  match cs, hlen with
  | [v0, v1], _ =>
    have f0 : DataW.trod enc Try.prog w base spare held l 4 (List.take (Try.prog.cellsOf 4) [v0, v1]) = us[0]? := hk 0 _ rfl
    have f1 : DataW.trod enc Try.prog w base spare held l 9 (List.take (Try.prog.cellsOf 9) [v1]) = us[1]? := hk 1 _ rfl
    rw [c4] at f0
    rw [c9] at f1
    obtain ⟨p, rfl⟩ := tr_bool Try.underlying4 f0 (at_some hul2 (by omega))
    obtain ⟨s, rfl⟩ := tr_str Try.underlying9 f1 (at_some hul2 (by omega))
    exact ⟨⟨p, s⟩, rfl⟩
theorem open_pos {fuel : Nat} {cs : List Value} {x : DataW H × List MemPlace} (h : DataW.trod enc Try.prog w base spare held fuel 45 cs = some x) : ∃ l c : Int, cs = [.int .i64 l, .int .i64 c] := by
  obtain ⟨us, l, -, -, hlen, hul, hk⟩ := DataW.trod_struct Try.underlying45 h
  have c45 : Try.prog.cellsOf 45 = 2 := by kernel_rfl
  have c3 : Try.prog.cellsOf 3 = 1 := by kernel_rfl
  rw [c45] at hlen
  have hul2 : us.length = 2 := hul
  match cs, hlen with
  | [v0, v1], _ =>
    have f0 : DataW.trod enc Try.prog w base spare held l 3 (List.take (Try.prog.cellsOf 3) [v0, v1]) = us[0]? := hk 0 _ rfl
    have f1 : DataW.trod enc Try.prog w base spare held l 3 (List.take (Try.prog.cellsOf 3) [v1]) = us[1]? := hk 1 _ rfl
    rw [c3] at f0 f1
    obtain ⟨p, rfl⟩ := tr_int Try.underlying3 f0 (at_some hul2 (by omega))
    obtain ⟨s, rfl⟩ := tr_int Try.underlying3 f1 (at_some hul2 (by omega))
    exact ⟨p, s, rfl⟩
theorem open_va {fuel : Nat} {cs : List Value} {x : DataW H × List MemPlace} (h : DataW.trod enc Try.prog w base spare held fuel 33 cs = some x) : ∃ v : VaD, cs.toArray = VaV v := by
  obtain ⟨us, l, -, -, hlen, hul, hk⟩ := DataW.trod_struct Try.underlying33 h
  have c33 : Try.prog.cellsOf 33 = 3 := by kernel_rfl
  have c31 : Try.prog.cellsOf 31 = 2 := by kernel_rfl
  have c3 : Try.prog.cellsOf 3 = 1 := by kernel_rfl
  rw [c33] at hlen
  have hul2 : us.length = 2 := hul
  match cs, hlen with
  | [v0, v1, v2], _ =>
    have f0 : DataW.trod enc Try.prog w base spare held l 31 (List.take (Try.prog.cellsOf 31) [v0, v1, v2]) = us[0]? := hk 0 _ rfl
    have f1 : DataW.trod enc Try.prog w base spare held l 3 (List.take (Try.prog.cellsOf 3) [v2]) = us[1]? := hk 1 _ rfl
    rw [c31] at f0
    rw [c3] at f1
    obtain ⟨y0, hy0⟩ := Option.isSome_iff_exists.1 (at_some (l := us) (i := 0) hul2 (by omega))
    obtain ⟨t, ht⟩ := open_ty (cs := [v0, v1]) (f0.trans hy0)
    obtain ⟨s, rfl⟩ := tr_int Try.underlying3 f1 (at_some hul2 (by omega))
    simp at ht
    obtain ⟨rfl, rfl⟩ := ht
    exact ⟨⟨t, s⟩, rfl⟩
theorem open_fd {fuel : Nat} {cs : List Value} {x : DataW H × List MemPlace} (h : DataW.trod enc Try.prog w base spare held fuel 62 cs = some x) : ∃ v : FdD, cs.toArray = FdV v := by
  obtain ⟨us, l, -, -, hlen, hul, hk⟩ := DataW.trod_struct Try.underlying62 h
  have c62 : Try.prog.cellsOf 62 = 5 := by kernel_rfl
  have c31 : Try.prog.cellsOf 31 = 2 := by kernel_rfl
  have c45 : Try.prog.cellsOf 45 = 2 := by kernel_rfl
  have c9 : Try.prog.cellsOf 9 = 1 := by kernel_rfl
  rw [c62] at hlen
  have hul2 : us.length = 3 := hul
  match cs, hlen with
  | [v0, v1, v2, v3, v4], _ =>
    have f0 : DataW.trod enc Try.prog w base spare held l 9 (List.take (Try.prog.cellsOf 9) [v0, v1, v2, v3, v4]) = us[0]? := hk 0 _ rfl
    have f1 : DataW.trod enc Try.prog w base spare held l 31 (List.take (Try.prog.cellsOf 31) [v1, v2, v3, v4]) = us[1]? := hk 1 _ rfl
    have f2 : DataW.trod enc Try.prog w base spare held l 45 (List.take (Try.prog.cellsOf 45) [v3, v4]) = us[2]? := hk 2 _ rfl
    rw [c9] at f0
    rw [c31] at f1
    rw [c45] at f2
    obtain ⟨s, rfl⟩ := tr_str Try.underlying9 f0 (at_some hul2 (by omega))
    obtain ⟨y1, hy1⟩ := Option.isSome_iff_exists.1 (at_some (l := us) (i := 1) hul2 (by omega))
    obtain ⟨t, ht⟩ := open_ty (cs := [v1, v2]) (f1.trans hy1)
    obtain ⟨y2, hy2⟩ := Option.isSome_iff_exists.1 (at_some (l := us) (i := 2) hul2 (by omega))
    obtain ⟨p, q, hp⟩ := open_pos (cs := [v3, v4]) (f2.trans hy2)
    simp at ht hp
    obtain ⟨rfl, rfl⟩ := ht
    obtain ⟨rfl, rfl⟩ := hp
    exact ⟨⟨s, t, p, q⟩, rfl⟩
theorem open_in {fuel : Nat} {cs : List Value} {x : DataW H × List MemPlace} (h : DataW.trod enc Try.prog w base spare held fuel 49 cs = some x) :
    ∃ (r : InD) (ao mo : Option Addr) (ac mc : Nat), cs.toArray = InV r ao ac mo mc ∧ InM w r ao mo := by
  obtain ⟨ys, n, -, -, hlen, hyl, hf⟩ := DataW.trod_struct Try.underlying49 h
  have h13 : Try.prog.cellsOf 49 = 13 := by kernel_rfl
  have c3 : Try.prog.cellsOf 3 = 1 := by kernel_rfl
  have c2 : Try.prog.cellsOf 2 = 1 := by kernel_rfl
  have c9 : Try.prog.cellsOf 9 = 1 := by kernel_rfl
  have c34 : Try.prog.cellsOf 34 = 1 := by kernel_rfl
  have c45 : Try.prog.cellsOf 45 = 2 := by kernel_rfl
  rw [h13] at hlen
  have hyl12 : ys.length = 12 := hyl
  match cs, hlen with
  | [v0, v1, v2, v3, v4, v5, v6, v7, v8, v9, v10, v11, v12], _ =>
    have f0 : DataW.trod enc Try.prog w base spare held n 3 (List.take (Try.prog.cellsOf 3) [v0, v1, v2, v3, v4, v5, v6, v7, v8, v9, v10, v11, v12]) = ys[0]? := hf 0 _ rfl
    have f1 : DataW.trod enc Try.prog w base spare held n 3 (List.take (Try.prog.cellsOf 3) [v1, v2, v3, v4, v5, v6, v7, v8, v9, v10, v11, v12]) = ys[1]? := hf 1 _ rfl
    have f2 : DataW.trod enc Try.prog w base spare held n 3 (List.take (Try.prog.cellsOf 3) [v2, v3, v4, v5, v6, v7, v8, v9, v10, v11, v12]) = ys[2]? := hf 2 _ rfl
    have f3 : DataW.trod enc Try.prog w base spare held n 3 (List.take (Try.prog.cellsOf 3) [v3, v4, v5, v6, v7, v8, v9, v10, v11, v12]) = ys[3]? := hf 3 _ rfl
    have f4 : DataW.trod enc Try.prog w base spare held n 3 (List.take (Try.prog.cellsOf 3) [v4, v5, v6, v7, v8, v9, v10, v11, v12]) = ys[4]? := hf 4 _ rfl
    have f5 : DataW.trod enc Try.prog w base spare held n 2 (List.take (Try.prog.cellsOf 2) [v5, v6, v7, v8, v9, v10, v11, v12]) = ys[5]? := hf 5 _ rfl
    have f6 : DataW.trod enc Try.prog w base spare held n 9 (List.take (Try.prog.cellsOf 9) [v6, v7, v8, v9, v10, v11, v12]) = ys[6]? := hf 6 _ rfl
    have f7 : DataW.trod enc Try.prog w base spare held n 34 (List.take (Try.prog.cellsOf 34) [v7, v8, v9, v10, v11, v12]) = ys[7]? := hf 7 _ rfl
    have f8 : DataW.trod enc Try.prog w base spare held n 34 (List.take (Try.prog.cellsOf 34) [v8, v9, v10, v11, v12]) = ys[8]? := hf 8 _ rfl
    have f9 : DataW.trod enc Try.prog w base spare held n 3 (List.take (Try.prog.cellsOf 3) [v9, v10, v11, v12]) = ys[9]? := hf 9 _ rfl
    have f10 : DataW.trod enc Try.prog w base spare held n 3 (List.take (Try.prog.cellsOf 3) [v10, v11, v12]) = ys[10]? := hf 10 _ rfl
    have f11 : DataW.trod enc Try.prog w base spare held n 45 (List.take (Try.prog.cellsOf 45) [v11, v12]) = ys[11]? := hf 11 _ rfl
    rw [c3] at f0 f1 f2 f3 f4 f9 f10
    rw [c2] at f5
    rw [c9] at f6
    rw [c34] at f7 f8
    rw [c45] at f11
    obtain ⟨k0, rfl⟩ := tr_int Try.underlying3 f0 (at_some hyl12 (by omega))
    obtain ⟨k1, rfl⟩ := tr_int Try.underlying3 f1 (at_some hyl12 (by omega))
    obtain ⟨k2, rfl⟩ := tr_int Try.underlying3 f2 (at_some hyl12 (by omega))
    obtain ⟨k3, rfl⟩ := tr_int Try.underlying3 f3 (at_some hyl12 (by omega))
    obtain ⟨k4, rfl⟩ := tr_int Try.underlying3 f4 (at_some hyl12 (by omega))
    obtain ⟨k5, rfl⟩ := tr_int Try.underlying2 f5 (at_some hyl12 (by omega))
    obtain ⟨sg, rfl⟩ := tr_str Try.underlying9 f6 (at_some hyl12 (by omega))
    obtain ⟨y7, hy7⟩ := Option.isSome_iff_exists.1 (at_some (l := ys) (i := 7) hyl12 (by omega))
    obtain ⟨y8, hy8⟩ := Option.isSome_iff_exists.1 (at_some (l := ys) (i := 8) hyl12 (by omega))
    obtain ⟨ao, ac, xs, rfl, hxs⟩ := open_intsM (f7.trans hy7)
    obtain ⟨mo, mc, ms, rfl, hms⟩ := open_intsM (f8.trans hy8)
    obtain ⟨k9, rfl⟩ := tr_int Try.underlying3 f9 (at_some hyl12 (by omega))
    obtain ⟨k10, rfl⟩ := tr_int Try.underlying3 f10 (at_some hyl12 (by omega))
    obtain ⟨y11, hy11⟩ := Option.isSome_iff_exists.1 (at_some (l := ys) (i := 11) hyl12 (by omega))
    obtain ⟨p, q, hp⟩ := open_pos (cs := [v11, v12]) (f11.trans hy11)
    simp at hp
    obtain ⟨rfl, rfl⟩ := hp
    exact ⟨⟨k0, k1, k2, k3, k9, k10, k4, k5, p, q, sg, xs, ms⟩, ao, mo, ac, mc, rfl, hxs, hms⟩
theorem open_st {fuel : Nat} {cs : List Value} {x : DataW H × List MemPlace} (h : DataW.trod enc Try.prog w base spare held fuel 47 cs = some x) :
    ∃ (s : StD) (fa : Option Addr) (fc : Nat), cs.toArray = StV s fa fc ∧ FdsM w fa s.fs := by
  obtain ⟨us, l, -, -, hlen, hul, hk⟩ := DataW.trod_struct Try.underlying47 h
  have c47 : Try.prog.cellsOf 47 = 4 := by kernel_rfl
  have c43 : Try.prog.cellsOf 43 = 1 := by kernel_rfl
  have c45 : Try.prog.cellsOf 45 = 2 := by kernel_rfl
  have c9 : Try.prog.cellsOf 9 = 1 := by kernel_rfl
  rw [c47] at hlen
  have hul2 : us.length = 3 := hul
  match cs, hlen with
  | [v0, v1, v2, v3], _ =>
    have f0 : DataW.trod enc Try.prog w base spare held l 9 (List.take (Try.prog.cellsOf 9) [v0, v1, v2, v3]) = us[0]? := hk 0 _ rfl
    have f1 : DataW.trod enc Try.prog w base spare held l 43 (List.take (Try.prog.cellsOf 43) [v1, v2, v3]) = us[1]? := hk 1 _ rfl
    have f2 : DataW.trod enc Try.prog w base spare held l 45 (List.take (Try.prog.cellsOf 45) [v2, v3]) = us[2]? := hk 2 _ rfl
    rw [c9] at f0
    rw [c43] at f1
    rw [c45] at f2
    obtain ⟨s, rfl⟩ := tr_str Try.underlying9 f0 (at_some hul2 (by omega))
    obtain ⟨y1, hy1⟩ := Option.isSome_iff_exists.1 (at_some (l := us) (i := 1) hul2 (by omega))
    obtain ⟨fa, fc, fs, rfl, hfs⟩ := open_row ⟨⟨#[]⟩, ⟨false, ⟨#[]⟩⟩, 0, 0⟩ FdAt Try.underlying43 (k := 5) (by kernel_rfl) (by decide) (fun n cs x hx => by
      obtain ⟨v, hv⟩ := open_fd hx
      exact ⟨v, fun b o hh => by rw [hv] at hh; exact hh⟩) (f1.trans hy1)
    obtain ⟨y2, hy2⟩ := Option.isSome_iff_exists.1 (at_some (l := us) (i := 2) hul2 (by omega))
    obtain ⟨p, q, hp⟩ := open_pos (cs := [v2, v3]) (f2.trans hy2)
    simp at hp
    obtain ⟨rfl, rfl⟩ := hp
    exact ⟨⟨s, fs, p, q⟩, fa, fc, rfl, hfs⟩
theorem open_co {fuel : Nat} {cs : List Value} {x : DataW H × List MemPlace} (h : DataW.trod enc Try.prog w base spare held fuel 37 cs = some x) :
    ∃ (c : CoD) (va fa ia : Option Addr) (vc fc ic : Nat), cs.toArray = CoV c va vc fa fc ia ic ∧ CoM w c va fa ia := by
  obtain ⟨us, l, -, -, hlen, hul, hk⟩ := DataW.trod_struct Try.underlying37 h
  have c37 : Try.prog.cellsOf 37 = 8 := by kernel_rfl
  have c29 : Try.prog.cellsOf 29 = 1 := by kernel_rfl
  have c33 : Try.prog.cellsOf 33 = 3 := by kernel_rfl
  have c34 : Try.prog.cellsOf 34 = 1 := by kernel_rfl
  have c35 : Try.prog.cellsOf 35 = 1 := by kernel_rfl
  have c3 : Try.prog.cellsOf 3 = 1 := by kernel_rfl
  have c9 : Try.prog.cellsOf 9 = 1 := by kernel_rfl
  rw [c37] at hlen
  have hul2 : us.length = 6 := hul
  match cs, hlen with
  | [v0, v1, v2, v3, v4, v5, v6, v7], _ =>
    have f0 : DataW.trod enc Try.prog w base spare held l 9 (List.take (Try.prog.cellsOf 9) [v0, v1, v2, v3, v4, v5, v6, v7]) = us[0]? := hk 0 _ rfl
    have f1 : DataW.trod enc Try.prog w base spare held l 3 (List.take (Try.prog.cellsOf 3) [v1, v2, v3, v4, v5, v6, v7]) = us[1]? := hk 1 _ rfl
    have f2 : DataW.trod enc Try.prog w base spare held l 29 (List.take (Try.prog.cellsOf 29) [v2, v3, v4, v5, v6, v7]) = us[2]? := hk 2 _ rfl
    have f3 : DataW.trod enc Try.prog w base spare held l 33 (List.take (Try.prog.cellsOf 33) [v3, v4, v5, v6, v7]) = us[3]? := hk 3 _ rfl
    have f4 : DataW.trod enc Try.prog w base spare held l 34 (List.take (Try.prog.cellsOf 34) [v6, v7]) = us[4]? := hk 4 _ rfl
    have f5 : DataW.trod enc Try.prog w base spare held l 35 (List.take (Try.prog.cellsOf 35) [v7]) = us[5]? := hk 5 _ rfl
    rw [c9] at f0
    rw [c3] at f1
    rw [c29] at f2
    rw [c33] at f3
    rw [c34] at f4
    rw [c35] at f5
    obtain ⟨s, rfl⟩ := tr_str Try.underlying9 f0 (at_some hul2 (by omega))
    obtain ⟨pr, rfl⟩ := tr_int Try.underlying3 f1 (at_some hul2 (by omega))
    obtain ⟨y2, hy2⟩ := Option.isSome_iff_exists.1 (at_some (l := us) (i := 2) hul2 (by omega))
    obtain ⟨va, vc, vs, rfl, hvs⟩ := open_row ⟨⟨false, ⟨#[]⟩⟩, 0⟩ VaAt Try.underlying29 (k := 3) (by kernel_rfl) (by decide) (fun n cs x hx => by
      obtain ⟨v, hv⟩ := open_va hx
      exact ⟨v, fun b o hh => by rw [hv] at hh; exact hh⟩) (f2.trans hy2)
    obtain ⟨y3, hy3⟩ := Option.isSome_iff_exists.1 (at_some (l := us) (i := 3) hul2 (by omega))
    obtain ⟨rt, hrt⟩ := open_va (cs := [v3, v4, v5]) (f3.trans hy3)
    obtain ⟨y4, hy4⟩ := Option.isSome_iff_exists.1 (at_some (l := us) (i := 4) hul2 (by omega))
    obtain ⟨fa, fc, fr, rfl, hfr⟩ := open_intsM (f4.trans hy4)
    obtain ⟨y5, hy5⟩ := Option.isSome_iff_exists.1 (at_some (l := us) (i := 5) hul2 (by omega))
    obtain ⟨ia, ic, is, rfl, his⟩ := open_row ⟨0, 0, 0, 0, 0, 0, 0, 0, 0, 0, ⟨#[]⟩, [], []⟩ InAt Try.underlying35 (k := 13) (by kernel_rfl) (by decide) (fun n cs x hx => by
      obtain ⟨r, ao, mo, ac, mc, hv, hm⟩ := open_in hx
      exact ⟨r, fun b o hh => ⟨ao, ac, mo, mc, by rw [hv] at hh; exact hh, hm⟩⟩) (f5.trans hy5)
    simp at hrt
    obtain ⟨rfl, rfl, rfl⟩ := hrt
    exact ⟨⟨s, pr, vs, rt, fr, is⟩, va, fa, ia, vc, fc, ic, rfl, hvs, hfr, his⟩
theorem open_mod {fuel : Nat} {cs : List Value} {x : DataW H × List MemPlace} (h : DataW.trod enc Try.prog w base spare held fuel 25 cs = some x) :
    ∃ (ss : List StD) (ks : List CoD) (sa ca : Option Addr) (sc cc : Nat), cs = [.slice sa ss.length sc, .slice ca ks.length cc] ∧ RowM 4 StAt w sa ss ∧ RowM 8 CoAt w ca ks := by
  obtain ⟨us, l, -, -, hlen, hul, hk⟩ := DataW.trod_struct Try.underlying25 h
  have c25 : Try.prog.cellsOf 25 = 2 := by kernel_rfl
  have c22 : Try.prog.cellsOf 22 = 1 := by kernel_rfl
  have c23 : Try.prog.cellsOf 23 = 1 := by kernel_rfl
  rw [c25] at hlen
  have hul2 : us.length = 2 := hul
  match cs, hlen with
  | [v0, v1], _ =>
    have f0 : DataW.trod enc Try.prog w base spare held l 22 (List.take (Try.prog.cellsOf 22) [v0, v1]) = us[0]? := hk 0 _ rfl
    have f1 : DataW.trod enc Try.prog w base spare held l 23 (List.take (Try.prog.cellsOf 23) [v1]) = us[1]? := hk 1 _ rfl
    rw [c22] at f0
    rw [c23] at f1
    obtain ⟨y0, hy0⟩ := Option.isSome_iff_exists.1 (at_some (l := us) (i := 0) hul2 (by omega))
    obtain ⟨y1, hy1⟩ := Option.isSome_iff_exists.1 (at_some (l := us) (i := 1) hul2 (by omega))
    obtain ⟨sa, sc, ss, rfl, hss⟩ := open_row ⟨⟨#[]⟩, [], 0, 0⟩ StAt Try.underlying22 (k := 4) (by kernel_rfl) (by decide) (fun n cs x hx => by
      obtain ⟨s, fa, fc, hv, hm⟩ := open_st hx
      exact ⟨s, fun b o hh => ⟨fa, fc, by rw [hv] at hh; exact hh, hm⟩⟩) (f0.trans hy0)
    obtain ⟨ca, cc, ks, rfl, hks⟩ := open_row ⟨⟨#[]⟩, 0, [], ⟨⟨false, ⟨#[]⟩⟩, 0⟩, [], []⟩ CoAt Try.underlying23 (k := 8) (by kernel_rfl) (by decide) (fun n cs x hx => by
      obtain ⟨c, va, fa, ia, vc, fc, ic, hv, hm⟩ := open_co hx
      exact ⟨c, fun b o hh => ⟨va, vc, fa, fc, ia, ic, by rw [hv] at hh; exact hh, hm⟩⟩) (f1.trans hy1)
    exact ⟨ss, ks, sa, ca, sc, cc, rfl, hss, hks⟩
end
end Go.Proofs.Ytfhdiahjfnphkaa
/- When two slices of numbers, of variables, are alike. No conditions. -/
namespace Go.Proofs.Ytfhdiahjfnphkaa
open Go.RowKit Go.Maps
set_option linter.unusedVariables false
set_option linter.unusedSimpArgs false
/-- Numbers of the reference. -/
theorem numbers_i (xs ys : List Int) (A A2 : Option Addr) (c c2 : Nat) (r : Bool) (w : World) (h1 : IntsM w A xs) (h2 : IntsM w A2 ys) (hr : eqL (· == ·) xs ys = r) :
    Calls Try.prog 25 #[.slice A xs.length c, .slice A2 ys.length c2] w fun e w' => e = .returned (.bool r) ∧ Hid (Below w.heap.size w w') := by
  have hl := h1.1
  obtain ⟨n, hn⟩ : ∃ n : Nat, xs.length = n := ⟨_, rfl⟩
  obtain ⟨m, hm⟩ : ∃ m : Nat, ys.length = m := ⟨_, rfl⟩
  rw [hn, hm]
  rw [hn] at hl
  have H1 := hid h1
  have H2 := hid h2
  have HN := hid hn
  have HM := hid hm
  have HR := hid hr
  clear h1 h2 hn hm hr
  by_cases hnm : n = m
  · subst hnm
    have e0 : ((n : Int) != (n : Int)) = false := by simp
    go_enter Try.func25, Try.ntmps25
    go_wp2
    go_loopg [5] n (fun gk v5 wr => ∃ k : Nat, k ≤ n ∧ gk = n - k ∧ v5 = .int .i64 k ∧ Hid (Below w.heap.size w wr) ∧ Hid (∀ i x y, i < k → xs[i]? = some x → ys[i]? = some y → (x == y) = true))
    case atStart => exact ⟨0, by omega, rfl, rfl, hid (Below.refl _ _), hid (fun i x y hi => absurd hi (by omega))⟩
    case round =>
      obtain ⟨k, hk, rfl, rfl, HB, HA⟩ := hrel
      by_cases hlt : k < n
      · have hlt' : (k : Int) < (n : Int) := by omega
        obtain ⟨x, hx⟩ := get_some HN.out hlt
        obtain ⟨y, hy⟩ := get_some HM.out hlt
        obtain ⟨b, o, rfl, hb1, hc1⟩ := (H1.out.later int_stays HB.out).2 k x hx
        obtain ⟨b2, o2, rfl, hb2, hc2⟩ := (H2.out.later int_stays HB.out).2 k y hy
        simp only [IntAt, Nat.mul_one] at hc1 hc2
        have HX := hid hx
        have HY := hid hy
        clear hx hy
        cases e : (x != y)
        case true =>
          have hf : r = false := HR.out.symm.trans (eqL_no HX.out HY.out (by simpa using e))
          subst hf
          have HBA := HB
          go_wp2
          go_quiet (fail)
          go_wp2
          go_ret
          exact ⟨rfl, hid (below_drewN HBA.out _)⟩
        case false =>
          have HBA := HB
          go_wp2
          go_quiet (fail)
          go_wp2
          go_roundg (n - (k + 1))
          case measure => omega
          case rel => exact ⟨k + 1, by omega, rfl, rfl, hid (below_drewN HBA.out _), hid (fun i x' y' hi h1 h2 => by
            by_cases hik : i < k
            · exact HA.out i x' y' hik h1 h2
            · obtain rfl : i = k := by omega
              rw [HX.out] at h1
              rw [HY.out] at h2
              cases h1
              cases h2
              simpa using e)⟩
      · have hlt' : ¬ (k : Int) < (n : Int) := by omega
        have hf : r = true := HR.out.symm.trans (eqL_yes (HN.out.trans HM.out.symm) (fun i x y hi h1 h2 => HA.out i x y (by have := HN.out; omega) h1 h2))
        subst hf
        go_wp2
        go_ret
        exact ⟨rfl, HB⟩
  · have e0 : ((n : Int) != (m : Int)) = true := by simp; omega
    have hf : r = false := HR.out.symm.trans (eqL_len (by rw [HN.out, HM.out]; exact hnm))
    subst hf
    go_enter Try.func25, Try.ntmps25
    go_wp2
    go_ret
    exact ⟨rfl, hid (Below.refl _ _)⟩
/-- slices.Equal of variables. -/
theorem eqVars_i (xs ys : List VaD) (A A2 : Option Addr) (c c2 : Nat) (r : Bool) (w : World) (h1 : RowM 3 VaAt w A xs) (h2 : RowM 3 VaAt w A2 ys) (hr : eqL vaEq xs ys = r) :
    Calls Try.prog 21 #[.slice A xs.length c, .slice A2 ys.length c2] w fun e w' => e = .returned (.bool r) ∧ Hid (Below w.heap.size w w') := by
  have hl := h1.1
  obtain ⟨n, hn⟩ : ∃ n : Nat, xs.length = n := ⟨_, rfl⟩
  obtain ⟨m, hm⟩ : ∃ m : Nat, ys.length = m := ⟨_, rfl⟩
  rw [hn, hm]
  rw [hn] at hl
  have H1 := hid h1
  have H2 := hid h2
  have HN := hid hn
  have HM := hid hm
  have HR := hid hr
  clear h1 h2 hn hm hr
  by_cases hnm : n = m
  · subst hnm
    have e0 : ((n : Int) != (n : Int)) = false := by simp
    go_enter Try.func21, Try.ntmps21
    go_wp2
    go_loopg [13] n (fun gk v13 wr => ∃ k : Nat, k ≤ n ∧ gk = n - k ∧ v13 = .int .i64 k ∧ Hid (Below w.heap.size w wr) ∧ Hid (∀ i x y, i < k → xs[i]? = some x → ys[i]? = some y → vaEq x y = true))
    case atStart => exact ⟨0, by omega, rfl, rfl, hid (Below.refl _ _), hid (fun i x y hi => absurd hi (by omega))⟩
    case round =>
      obtain ⟨k, hk, rfl, rfl, HB, HA⟩ := hrel
      by_cases hlt : k < n
      · have hlt' : (k : Int) < (n : Int) := by omega
        obtain ⟨x, hx⟩ := get_some HN.out hlt
        obtain ⟨y, hy⟩ := get_some HM.out hlt
        obtain ⟨b, o, rfl, hb1, hc1⟩ := (H1.out.later va_stays HB.out).2 k x hx
        obtain ⟨b2, o2, rfl, hb2, hc2⟩ := (H2.out.later va_stays HB.out).2 k y hy
        have d0 := hc1 0 _ rfl
        have d1 := hc1 1 _ rfl
        have d2 := hc1 2 _ rfl
        have f0 := hc2 0 _ rfl
        have f1 := hc2 1 _ rfl
        have f2 := hc2 2 _ rfl
        simp only [Nat.add_zero] at d0 f0
        have HX := hid hx
        have HY := hid hy
        clear hx hy hc1 hc2
        obtain ⟨⟨p, nm⟩, cl⟩ := x
        obtain ⟨⟨p2, nm2⟩, cl2⟩ := y
        have HBA := HB
        cases e1 : (p == p2)
        case false =>
          have hf : r = false := HR.out.symm.trans (eqL_no HX.out HY.out (by simp [vaEq, tyEq, e1]))
          subst hf
          go_wp2
          go_quiet (fail)
          go_wp2
          go_ret
          exact ⟨rfl, hid (below_drewN HBA.out _)⟩
        case true =>
          cases e2 : (nm.toList == nm2.toList)
          case false =>
            have hf : r = false := HR.out.symm.trans (eqL_no HX.out HY.out (by simp [vaEq, tyEq, sEq, e1, e2]))
            subst hf
            go_wp2
            go_quiet (fail)
            go_wp2
            go_ret
            exact ⟨rfl, hid (below_drewN HBA.out _)⟩
          case true =>
            cases e3 : (cl == cl2)
            case false =>
              have hf : r = false := HR.out.symm.trans (eqL_no HX.out HY.out (by simp [vaEq, tyEq, sEq, e1, e2, e3]))
              subst hf
              go_wp2
              go_quiet (fail)
              go_wp2
              go_ret
              exact ⟨rfl, hid (below_drewN HBA.out _)⟩
            case true =>
              go_wp2
              go_quiet (fail)
              go_wp2
              go_roundg (n - (k + 1))
              case measure => omega
              case rel => exact ⟨k + 1, by omega, rfl, rfl, hid (below_drewN HBA.out _), hid (fun i x' y' hi h1 h2 => by
                by_cases hik : i < k
                · exact HA.out i x' y' hik h1 h2
                · obtain rfl : i = k := by omega
                  rw [HX.out] at h1
                  rw [HY.out] at h2
                  cases h1
                  cases h2
                  simp [vaEq, tyEq, sEq, e1, e2, e3])⟩
      · have hlt' : ¬ (k : Int) < (n : Int) := by omega
        have hf : r = true := HR.out.symm.trans (eqL_yes (HN.out.trans HM.out.symm) (fun i x y hi h1 h2 => HA.out i x y (by have := HN.out; omega) h1 h2))
        subst hf
        go_wp2
        go_ret
        exact ⟨rfl, HB⟩
  · have e0 : ((n : Int) != (m : Int)) = true := by simp; omega
    have hf : r = false := HR.out.symm.trans (eqL_len (by rw [HN.out, HM.out]; exact hnm))
    subst hf
    go_enter Try.func21, Try.ntmps21
    go_wp2
    go_ret
    exact ⟨rfl, hid (Below.refl _ _)⟩
end Go.Proofs.Ytfhdiahjfnphkaa
