/- A function that came in, opened. No conditions. -/
import Derived.Test.YtplpjckkocccfaaIrW
import Derived.Deep.Slices
import Derived.Deep.Fields
import Derived.ChangeSame
namespace Go.Proofs.Ytplpjckkocccfaa
open Go.RowKit Go.ChangeShapes Go.WideShapes Go.Deep
set_option linter.unusedVariables false
set_option linter.unusedSimpArgs false
section
variable {H : Type} {enc : TypeId × Value → H} {w : World} {base : Nat} {spare : Nat → Bool} {held : Bool}
theorem tr_int {n t : Nat} {k : IntKind} {v : Value} {o : Option (DataW H × List MemPlace)} (ht : Try.prog.underlying t = some (.int k)) (h : DataW.trod enc Try.prog w base spare held n t [v] = o) (ho : o.isSome = true) : ∃ m, v = .int k m := by
  obtain ⟨y, hy⟩ := Option.isSome_iff_exists.1 ho
  obtain ⟨m, hc, -, -⟩ := DataW.trod_int ht (h.trans hy)
  exact ⟨m, by simpa using hc⟩
theorem tr_str {n t : Nat} {v : Value} {o : Option (DataW H × List MemPlace)} (ht : Try.prog.underlying t = some .string) (h : DataW.trod enc Try.prog w base spare held n t [v] = o) (ho : o.isSome = true) : ∃ m : ByteArray, v = .string m := by
  obtain ⟨y, hy⟩ := Option.isSome_iff_exists.1 ho
  obtain ⟨m, hc, -, -⟩ := DataW.trod_string ht (h.trans hy)
  exact ⟨m, by simpa using hc⟩
theorem tr_bool {n t : Nat} {v : Value} {o : Option (DataW H × List MemPlace)} (ht : Try.prog.underlying t = some .bool) (h : DataW.trod enc Try.prog w base spare held n t [v] = o) (ho : o.isSome = true) : ∃ m : Bool, v = .bool m := by
  obtain ⟨y, hy⟩ := Option.isSome_iff_exists.1 ho
  obtain ⟨m, hc, -⟩ := DataW.trod_bool ht (h.trans hy)
  exact ⟨m, by simpa using hc⟩
theorem tr_slice {n t e : Nat} {v : Value} {o : Option (DataW H × List MemPlace)} (ht : Try.prog.underlying t = some (.slice e)) (h : DataW.trod enc Try.prog w base spare held n t [v] = o) (ho : o.isSome = true) : ∃ A m c, v = .slice A m c := by
  obtain ⟨y, hy⟩ := Option.isSome_iff_exists.1 ho
  rcases open_slice ht (h.trans hy) with ⟨h0, -⟩ | ⟨a, len, cap, m, n, D, Pl, hcs, -⟩
  · exact ⟨_, _, _, by simpa using h0⟩
  · exact ⟨_, _, _, by simpa using hcs⟩
theorem at_some {α : Type} {l : List α} {i n : Nat} (hl : l.length = n) (hi : i < n) : (l[i]?).isSome = true := by
  rw [List.getElem?_eq_getElem (by omega)]; rfl
theorem sp_none {a : Addr} {v : Value} (h : w.cell? a = some v) : a.spot = none := by
  unfold World.cell? at h
  split at h
  · cases hsp : a.spot with
    | none => rfl
    | some q => simp [hsp] at h
  · cases h
theorem lt_cell {a : Addr} {v : Value} (h : w.cell? a = some v) : a.block < w.heap.size := by
  by_cases hg : a.block < w.heap.size
  · exact hg
  · unfold World.cell? at h
    have hno : w.heap[a.block]? = none := Array.getElem?_eq_none (by omega)
    simp [hno] at h
theorem add_add' (b off i j : Nat) : ((⟨b, off, none⟩ : Addr).add i).add j = ⟨b, off + i + j, none⟩ := by
  unfold Addr.add
  by_cases h1 : i = 0
  · by_cases h2 : j = 0
    · subst h1 h2; rfl
    · subst h1; simp [h2]
  · by_cases h2 : j = 0
    · subst h2; simp [h1]
    · simp [h1, h2]
theorem open_inst {fuel : Nat} {cs : List Value} {x : DataW H × List MemPlace} (h : DataW.trod enc Try.prog w base spare held fuel 26 cs = some x) :
    ∃ r : IR, cs = (recO r).toList := by
  obtain ⟨ys, n, -, -, hlen, hyl, hf⟩ := DataW.trod_struct Try.underlying26 h
  have h13 : Try.prog.cellsOf 26 = 13 := by kernel_rfl
  have c3 : Try.prog.cellsOf 3 = 1 := by kernel_rfl
  have c2 : Try.prog.cellsOf 2 = 1 := by kernel_rfl
  have c9 : Try.prog.cellsOf 9 = 1 := by kernel_rfl
  have c22 : Try.prog.cellsOf 22 = 1 := by kernel_rfl
  have c24 : Try.prog.cellsOf 24 = 2 := by kernel_rfl
  rw [h13] at hlen
  have hyl12 : ys.length = 12 := hyl
  match cs, hlen with
  | [v0, v1, v2, v3, v4, v5, v6, v7, v8, v9, v10, v11, v12], _ =>
    have f0 : DataW.trod enc Try.prog w base spare held n 3 (List.take (Try.prog.cellsOf 3) [v0, v1, v2, v3, v4, v5, v6, v7, v8, v9, v10, v11, v12]) = ys[0]? := hf 0 _ rfl
    have f1 : DataW.trod enc Try.prog w base spare held n 3 (List.take (Try.prog.cellsOf 3) [v1, v2, v3, v4, v5, v6, v7, v8, v9, v10, v11, v12]) = ys[1]? := hf 1 _ rfl
    have f2 : DataW.trod enc Try.prog w base spare held n 3 (List.take (Try.prog.cellsOf 3) [v2, v3, v4, v5, v6, v7, v8, v9, v10, v11, v12]) = ys[2]? := hf 2 _ rfl
    have f3 : DataW.trod enc Try.prog w base spare held n 3 (List.take (Try.prog.cellsOf 3) [v3, v4, v5, v6, v7, v8, v9, v10, v11, v12]) = ys[3]? := hf 3 _ rfl
    have f4 : DataW.trod enc Try.prog w base spare held n 3 (List.take (Try.prog.cellsOf 3) [v4, v5, v6, v7, v8, v9, v10, v11, v12]) = ys[4]? := hf 4 _ rfl
    have f5 : DataW.trod enc Try.prog w base spare held n 2 (List.take (Try.prog.cellsOf 2) [v5, v6, v7, v8, v9, v10, v11, v12]) = ys[5]? := hf 5 _ rfl
    have f6 : DataW.trod enc Try.prog w base spare held n 9 (List.take (Try.prog.cellsOf 9) [v6, v7, v8, v9, v10, v11, v12]) = ys[6]? := hf 6 _ rfl
    have f7 : DataW.trod enc Try.prog w base spare held n 22 (List.take (Try.prog.cellsOf 22) [v7, v8, v9, v10, v11, v12]) = ys[7]? := hf 7 _ rfl
    have f8 : DataW.trod enc Try.prog w base spare held n 22 (List.take (Try.prog.cellsOf 22) [v8, v9, v10, v11, v12]) = ys[8]? := hf 8 _ rfl
    have f9 : DataW.trod enc Try.prog w base spare held n 3 (List.take (Try.prog.cellsOf 3) [v9, v10, v11, v12]) = ys[9]? := hf 9 _ rfl
    have f10 : DataW.trod enc Try.prog w base spare held n 3 (List.take (Try.prog.cellsOf 3) [v10, v11, v12]) = ys[10]? := hf 10 _ rfl
    have f11 : DataW.trod enc Try.prog w base spare held n 24 (List.take (Try.prog.cellsOf 24) [v11, v12]) = ys[11]? := hf 11 _ rfl
    rw [c3] at f0 f1 f2 f3 f4 f9 f10
    rw [c2] at f5
    rw [c9] at f6
    rw [c22] at f7 f8
    rw [c24] at f11
    obtain ⟨k0, rfl⟩ := tr_int Try.underlying3 f0 (at_some hyl12 (by omega))
    obtain ⟨k1, rfl⟩ := tr_int Try.underlying3 f1 (at_some hyl12 (by omega))
    obtain ⟨k2, rfl⟩ := tr_int Try.underlying3 f2 (at_some hyl12 (by omega))
    obtain ⟨k3, rfl⟩ := tr_int Try.underlying3 f3 (at_some hyl12 (by omega))
    obtain ⟨k4, rfl⟩ := tr_int Try.underlying3 f4 (at_some hyl12 (by omega))
    obtain ⟨k5, rfl⟩ := tr_int Try.underlying2 f5 (at_some hyl12 (by omega))
    obtain ⟨sg, rfl⟩ := tr_str Try.underlying9 f6 (at_some hyl12 (by omega))
    obtain ⟨ao, an, ac, rfl⟩ := tr_slice Try.underlying22 f7 (at_some hyl12 (by omega))
    obtain ⟨mo, mn, mc, rfl⟩ := tr_slice Try.underlying22 f8 (at_some hyl12 (by omega))
    obtain ⟨k9, rfl⟩ := tr_int Try.underlying3 f9 (at_some hyl12 (by omega))
    obtain ⟨k10, rfl⟩ := tr_int Try.underlying3 f10 (at_some hyl12 (by omega))
    obtain ⟨y11, hy11⟩ := Option.isSome_iff_exists.1 (at_some (l := ys) (i := 11) hyl12 (by omega))
    have f11' : DataW.trod enc Try.prog w base spare held n 24 [v11, v12] = some y11 := f11.trans hy11
    obtain ⟨zs, m, -, -, -, hzl, hg⟩ := DataW.trod_struct Try.underlying24 f11'
    have hzl2 : zs.length = 2 := hzl
    have g0 : DataW.trod enc Try.prog w base spare held m 3 (List.take (Try.prog.cellsOf 3) [v11, v12]) = zs[0]? := hg 0 _ rfl
    have g1 : DataW.trod enc Try.prog w base spare held m 3 (List.take (Try.prog.cellsOf 3) [v12]) = zs[1]? := hg 1 _ rfl
    rw [c3] at g0 g1
    obtain ⟨k11, rfl⟩ := tr_int Try.underlying3 g0 (at_some hzl2 (by omega))
    obtain ⟨k12, rfl⟩ := tr_int Try.underlying3 g1 (at_some hzl2 (by omega))
    exact ⟨⟨k0, k1, k2, k3, k9, k10, k4, k5, k11, k12, sg, ao, an, ac, mo, mn, mc⟩, rfl⟩
theorem open_insts {fuel : Nat} {v : Value} {x : DataW H × List MemPlace} (h : DataW.trod enc Try.prog w base spare held fuel 40 [v] = some x) :
    ∃ (A : Option Addr) (n cap : Nat) (rs : List IR), v = .slice A n cap ∧ rs.length = n ∧ InsN w.heap.size w A rs := by
  have h13 : Try.prog.cellsOf 26 = 13 := by kernel_rfl
  rcases open_slice Try.underlying40 h with ⟨h0, -⟩ | ⟨a, len, cap, m, n, D, Pl, hcs, hb, hl, hm, hmm, hx, hi⟩
  · exact ⟨none, 0, 0, [], by simpa using h0, rfl, fun i r hr => by simp at hr⟩
  · have hlm : len ≤ m := by rw [hmm]; split <;> omega
    have each : ∀ i, ∃ r : IR, i < len → w.cells? base (a.add (i * 13)) 13 = some (recO r).toList := by
      intro i
      by_cases hil : i < len
      · obtain ⟨cs', hc, ht⟩ := hi i (by omega)
        rw [h13] at hc
        obtain ⟨r, rfl⟩ := open_inst ht
        exact ⟨r, fun _ => hc⟩
      · exact ⟨⟨0, 0, 0, 0, 0, 0, 0, 0, 0, 0, ⟨#[]⟩, none, 0, 0, none, 0, 0⟩, fun h => absurd h hil⟩
    obtain ⟨f, hf⟩ := Classical.axiomOfChoice each
    refine ⟨some a, len, cap, (List.range len).map f, by simpa using hcs, by simp, fun i r hr => ?_⟩
    have hil : i < len := by
      have := (List.getElem?_eq_some_iff.1 hr).1
      simpa using this
    rw [List.getElem?_map, List.getElem?_range hil] at hr
    simp at hr
    subst hr
    obtain ⟨_, hcl, hat⟩ := World.cells?_some (hf i hil)
    obtain ⟨_, -, hat0⟩ := World.cells?_some (hf 0 (by omega))
    have z0 := hat0 (i := 0) (by omega)
    rw [Nat.zero_mul, show (a.add 0).add 0 = a by unfold Addr.add; simp] at z0
    have hsp : a.spot = none := sp_none (v := .int .i64 (f 0).op) (by rw [z0]; rfl)
    have hlt : a.block < w.heap.size := lt_cell (v := .int .i64 (f 0).op) (by rw [z0]; rfl)
    obtain ⟨b, off, sp⟩ := a
    simp only at hsp
    subst hsp
    have q : ∀ j v, (recO (f i)).toList[j]? = some v → w.cell? ⟨b, off + i * 13 + j, none⟩ = some v := by
      intro j v hj
      have hjl := (List.getElem?_eq_some_iff.1 hj).1
      have e := hat (i := j) (by simpa using hjl)
      rw [add_add'] at e
      rw [e]
      simpa using hj
    exact ⟨b, off, rfl, hlt, hlt, q 0 _ rfl, q 1 _ rfl, q 2 _ rfl, q 3 _ rfl, q 4 _ rfl, q 5 _ rfl, q 6 _ rfl, q 7 _ rfl, q 8 _ rfl, q 9 _ rfl, q 10 _ rfl, q 11 _ rfl, q 12 _ rfl⟩
theorem open_code {fuel : Nat} {cs : List Value} {x : DataW H × List MemPlace} (h : DataW.trod enc Try.prog w base spare held fuel 42 cs = some x) :
    ∃ (nm : ByteArray) (c1 : Int) (c3 : Bool) (c4 : ByteArray) (c5 : Int) (va : Option Addr) (nv cv : Nat) (fa : Option Addr) (nf cf : Nat) (A : Option Addr) (n cap : Nat) (rs : List IR), cs = (codeO nm c1 c3 c4 c5 va nv cv fa nf cf A n cap).toList ∧ rs.length = n ∧ InsN w.heap.size w A rs := by
  obtain ⟨ys, n, -, -, hlen, hyl, hf⟩ := DataW.trod_struct Try.underlying42 h
  have h8 : Try.prog.cellsOf 42 = 8 := by kernel_rfl
  have c3 : Try.prog.cellsOf 3 = 1 := by kernel_rfl
  have c9 : Try.prog.cellsOf 9 = 1 := by kernel_rfl
  have c4 : Try.prog.cellsOf 4 = 1 := by kernel_rfl
  have c22 : Try.prog.cellsOf 22 = 1 := by kernel_rfl
  have c35 : Try.prog.cellsOf 35 = 1 := by kernel_rfl
  have c40 : Try.prog.cellsOf 40 = 1 := by kernel_rfl
  have c39 : Try.prog.cellsOf 39 = 3 := by kernel_rfl
  have c37 : Try.prog.cellsOf 37 = 2 := by kernel_rfl
  rw [h8] at hlen
  have hyl6 : ys.length = 6 := hyl
  match cs, hlen with
  | [v0, v1, v2, v3, v4, v5, v6, v7], _ =>
    have f0 : DataW.trod enc Try.prog w base spare held n 9 (List.take (Try.prog.cellsOf 9) [v0, v1, v2, v3, v4, v5, v6, v7]) = ys[0]? := hf 0 _ rfl
    have f1 : DataW.trod enc Try.prog w base spare held n 3 (List.take (Try.prog.cellsOf 3) [v1, v2, v3, v4, v5, v6, v7]) = ys[1]? := hf 1 _ rfl
    have f2 : DataW.trod enc Try.prog w base spare held n 35 (List.take (Try.prog.cellsOf 35) [v2, v3, v4, v5, v6, v7]) = ys[2]? := hf 2 _ rfl
    have f3 : DataW.trod enc Try.prog w base spare held n 39 (List.take (Try.prog.cellsOf 39) [v3, v4, v5, v6, v7]) = ys[3]? := hf 3 _ rfl
    have f4 : DataW.trod enc Try.prog w base spare held n 22 (List.take (Try.prog.cellsOf 22) [v6, v7]) = ys[4]? := hf 4 _ rfl
    have f5 : DataW.trod enc Try.prog w base spare held n 40 (List.take (Try.prog.cellsOf 40) [v7]) = ys[5]? := hf 5 _ rfl
    rw [c9] at f0
    rw [c3] at f1
    rw [c35] at f2
    rw [c39] at f3
    rw [c22] at f4
    rw [c40] at f5
    obtain ⟨k0, rfl⟩ := tr_str Try.underlying9 f0 (at_some hyl6 (by omega))
    obtain ⟨k1, rfl⟩ := tr_int Try.underlying3 f1 (at_some hyl6 (by omega))
    obtain ⟨va, nv, cv, rfl⟩ := tr_slice Try.underlying35 f2 (at_some hyl6 (by omega))
    obtain ⟨fa, nf, cf, rfl⟩ := tr_slice Try.underlying22 f4 (at_some hyl6 (by omega))
    obtain ⟨y3, hy3⟩ := Option.isSome_iff_exists.1 (at_some (l := ys) (i := 3) hyl6 (by omega))
    have f3' : DataW.trod enc Try.prog w base spare held n 39 [v3, v4, v5] = some y3 := f3.trans hy3
    obtain ⟨zs, m, -, -, -, hzl, hg⟩ := DataW.trod_struct Try.underlying39 f3'
    have hzl2 : zs.length = 2 := hzl
    have g0 : DataW.trod enc Try.prog w base spare held m 37 (List.take (Try.prog.cellsOf 37) [v3, v4, v5]) = zs[0]? := hg 0 _ rfl
    have g1 : DataW.trod enc Try.prog w base spare held m 3 (List.take (Try.prog.cellsOf 3) [v5]) = zs[1]? := hg 1 _ rfl
    rw [c37] at g0
    rw [c3] at g1
    obtain ⟨k5, rfl⟩ := tr_int Try.underlying3 g1 (at_some hzl2 (by omega))
    obtain ⟨z0, hz0⟩ := Option.isSome_iff_exists.1 (at_some (l := zs) (i := 0) hzl2 (by omega))
    have g0' : DataW.trod enc Try.prog w base spare held m 37 [v3, v4] = some z0 := g0.trans hz0
    obtain ⟨us, l, -, -, -, hul, hk⟩ := DataW.trod_struct Try.underlying37 g0'
    have hul2 : us.length = 2 := hul
    have k0' : DataW.trod enc Try.prog w base spare held l 4 (List.take (Try.prog.cellsOf 4) [v3, v4]) = us[0]? := hk 0 _ rfl
    have k1' : DataW.trod enc Try.prog w base spare held l 9 (List.take (Try.prog.cellsOf 9) [v4]) = us[1]? := hk 1 _ rfl
    rw [c4] at k0'
    rw [c9] at k1'
    obtain ⟨b3, rfl⟩ := tr_bool Try.underlying4 k0' (at_some hul2 (by omega))
    obtain ⟨b4, rfl⟩ := tr_str Try.underlying9 k1' (at_some hul2 (by omega))
    obtain ⟨y5, hy5⟩ := Option.isSome_iff_exists.1 (at_some (l := ys) (i := 5) hyl6 (by omega))
    obtain ⟨A, ni, cap, rs, rfl, hl, hI⟩ := open_insts (f5.trans hy5)
    exact ⟨k0, k1, b3, b4, k5, va, nv, cv, fa, nf, cf, A, ni, cap, rs, rfl, hl, hI⟩
end
end Go.Proofs.Ytplpjckkocccfaa
