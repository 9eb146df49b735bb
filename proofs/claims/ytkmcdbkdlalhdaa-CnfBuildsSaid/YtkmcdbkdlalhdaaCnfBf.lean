/- Calls of a builder that came in, opened. No conditions. -/
import Derived.Test.YtkmcdbkdlalhdaaCnfSb
import Derived.Test.YtkmcdbkdlalhdaaCnfBc
namespace Go.Proofs.Ytkmcdbkdlalhdaa
open Go.RowKit Go.ChangeShapes Go.WideShapes Go.Deep
set_option linter.unusedVariables false
set_option linter.unusedSimpArgs false
section
variable {H : Type} {enc : TypeId × Value → H} {w : World} {base : Nat} {spare : Nat → Bool} {held : Bool}
theorem add_add (b off i j : Nat) : ((⟨b, off, none⟩ : Addr).add i).add j = ⟨b, off + i + j, none⟩ := by
  unfold Addr.add
  by_cases h1 : i = 0
  · by_cases h2 : j = 0
    · subst h1 h2; rfl
    · subst h1; simp [h2]
  · by_cases h2 : j = 0
    · subst h2; simp [h1]
    · simp [h1, h2]
theorem intsP_of {A : Option Addr} {n c : Nat} {xs : List Int} (h : Ints w w.heap.size A n xs) (h1 : n ≤ c) (h2 : c ≤ 9223372036854775807) : IntsP w (fun j => j < w.heap.size) (.slice A n c) xs := by
  have hn := h.len
  subst hn
  exact ⟨A, c, rfl, h1, h2, h.1, h.2.imp id fun ⟨b, off, e, hb, hc⟩ => ⟨b, off, e, hb, hb, hc⟩⟩
theorem open_build {fuel : Nat} {cs : List Value} {x : DataW H × List MemPlace} (h : DataW.trod enc Try.prog w base spare held fuel 42 cs = some x) :
    ∃ (kd a d : Int) (A3 : Option Addr) (l3 c3 : Nat) (A4 : Option Addr) (l4 c4 : Nat) (xs ys : List Int), cs = [.int .i64 kd, .int .i64 a, .int .i64 d, .slice A3 l3 c3, .slice A4 l4 c4] ∧ IntsP w (fun j => j < w.heap.size) (.slice A3 l3 c3) xs ∧ IntsP w (fun j => j < w.heap.size) (.slice A4 l4 c4) ys := by
  obtain ⟨ys, n, -, -, hlen, hyl, hf⟩ := DataW.trod_struct Try.underlying42 h
  have h5 : Try.prog.cellsOf 42 = 5 := by kernel_rfl
  have c3 : Try.prog.cellsOf 3 = 1 := by kernel_rfl
  have c40 : Try.prog.cellsOf 40 = 1 := by kernel_rfl
  rw [h5] at hlen
  have hyl5 : ys.length = 5 := hyl
  match cs, hlen with
  | [v0, v1, v2, v3, v4], _ =>
    have f0 : DataW.trod enc Try.prog w base spare held n 3 (List.take (Try.prog.cellsOf 3) [v0, v1, v2, v3, v4]) = ys[0]? := hf 0 _ rfl
    have f1 : DataW.trod enc Try.prog w base spare held n 3 (List.take (Try.prog.cellsOf 3) [v1, v2, v3, v4]) = ys[1]? := hf 1 _ rfl
    have f2 : DataW.trod enc Try.prog w base spare held n 3 (List.take (Try.prog.cellsOf 3) [v2, v3, v4]) = ys[2]? := hf 2 _ rfl
    have f3 : DataW.trod enc Try.prog w base spare held n 40 (List.take (Try.prog.cellsOf 40) [v3, v4]) = ys[3]? := hf 3 _ rfl
    have f4 : DataW.trod enc Try.prog w base spare held n 40 (List.take (Try.prog.cellsOf 40) [v4]) = ys[4]? := hf 4 _ rfl
    rw [c3] at f0 f1 f2
    rw [c40] at f3 f4
    obtain ⟨k0, rfl⟩ := trod_int1 Try.underlying3 f0 (some_at hyl5 (by omega))
    obtain ⟨k1, rfl⟩ := trod_int1 Try.underlying3 f1 (some_at hyl5 (by omega))
    obtain ⟨k2, rfl⟩ := trod_int1 Try.underlying3 f2 (some_at hyl5 (by omega))
    obtain ⟨y3, hy3⟩ := Option.isSome_iff_exists.1 (some_at (l := ys) (i := 3) hyl5 (by omega))
    obtain ⟨y4, hy4⟩ := Option.isSome_iff_exists.1 (some_at (l := ys) (i := 4) hyl5 (by omega))
    obtain ⟨xs, A3, n3, p3, rfl, g1, g2, g3, -⟩ := open_intsI (f3.trans hy3)
    obtain ⟨zs, A4, n4, p4, rfl, g4, g5, g6, -⟩ := open_intsI (f4.trans hy4)
    exact ⟨k0, k1, k2, A3, n3, p3, A4, n4, p4, xs, zs, rfl, intsP_of g1 g2 g3, intsP_of g4 g5 g6⟩
theorem open_builds {fuel : Nat} {v : Value} {x : DataW H × List MemPlace} (h : DataW.trod enc Try.prog w base spare held fuel 37 [v] = some x) :
    ∃ (A : Option Addr) (n cap : Nat), v = .slice A n cap ∧ ∀ i, i < n → OpAt w A i := by
  have h5 : Try.prog.cellsOf 42 = 5 := by kernel_rfl
  rcases open_slice Try.underlying37 h with ⟨h0, -⟩ | ⟨a, len, cap, m, n, D, Pl, hcs, hb, hl, hm, hmm, hx, hi⟩
  · exact ⟨none, 0, 0, by simpa using h0, fun i hi => absurd hi (by omega)⟩
  · have hlm : len ≤ m := by rw [hmm]; split <;> omega
    refine ⟨some a, len, cap, by simpa using hcs, fun i hil => ?_⟩
    obtain ⟨cs', hc, ht⟩ := hi i (by omega)
    rw [h5] at hc
    obtain ⟨_, hcl, hat⟩ := World.cells?_some hc
    obtain ⟨kd, p, q, A3, l3, c3, A4, l4, c4, xs, ys, rfl, hx3, hx4⟩ := open_build ht
    have e0 := hat (i := 0) (by omega)
    have e1 := hat (i := 1) (by omega)
    have e2 := hat (i := 2) (by omega)
    have e3 := hat (i := 3) (by omega)
    have e4 := hat (i := 4) (by omega)
    obtain ⟨cs0, hc0, -⟩ := hi 0 (by omega)
    rw [h5] at hc0
    obtain ⟨_, hcl0, hat0⟩ := World.cells?_some hc0
    have z0 := hat0 (i := 0) (by omega)
    rw [Nat.zero_mul, show (a.add 0).add 0 = a by unfold Addr.add; simp] at z0
    have hsp : a.spot = none := spot_none (v := cs0[0]'(by omega)) (by rw [z0]; simp)
    have hlt : a.block < w.heap.size := lt_of_cell (v := cs0[0]'(by omega)) (by rw [z0]; simp)
    obtain ⟨b, off, sp⟩ := a
    simp only at hsp
    subst hsp
    rw [add_add] at e0 e1 e2 e3 e4
    exact ⟨b, off, kd, p, q, A3, l3, c3, A4, l4, c4, xs, ys, rfl, hlt, by simpa using e0, by simpa using e1, by simpa using e2, by simpa using e3, by simpa using e4, hx3, hx4⟩
end
end Go.Proofs.Ytkmcdbkdlalhdaa
