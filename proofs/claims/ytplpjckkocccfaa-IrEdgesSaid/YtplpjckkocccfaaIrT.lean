/- Light, of a module of one function. No conditions. -/
import Derived.Test.YtplpjckkocccfaaIrL
import Derived.Deep.CutBlock
namespace Go.Proofs.Ytplpjckkocccfaa
open Go.RowKit Go.Maps
set_option linter.unusedVariables false
set_option linter.unusedSimpArgs false
/-- One instruction, as it lies in memory. -/
structure IR where
  (op d a b tt el f n p q : Int) (sg : ByteArray) (ao : Option Addr) (an ac : Nat) (mo : Option Addr) (mn mc : Nat)
abbrev codeO (nm : ByteArray) (c1 : Int) (c3 : Bool) (c4 : ByteArray) (c5 : Int) (va : Option Addr) (nv cv : Nat) (fa : Option Addr) (nf cf : Nat) (A : Option Addr) (n cap : Nat) : Array Value :=
  #[.string nm, .int .i64 c1, .slice va nv cv, .bool c3, .string c4, .int .i64 c5, .slice fa nf cf, .slice A n cap]
/-- Where one lies. -/
structure InsAt (W : World) (b o : Nat) (r : IR) : Prop where
  lt : b < W.heap.size
  c0 : W.cell? ⟨b, o, none⟩ = some (.int .i64 r.op)
  c1 : W.cell? ⟨b, o + 1, none⟩ = some (.int .i64 r.d)
  c2 : W.cell? ⟨b, o + 2, none⟩ = some (.int .i64 r.a)
  c3 : W.cell? ⟨b, o + 3, none⟩ = some (.int .i64 r.b)
  c4 : W.cell? ⟨b, o + 4, none⟩ = some (.int .i64 r.f)
  c5 : W.cell? ⟨b, o + 5, none⟩ = some (.int .i64 r.n)
  c6 : W.cell? ⟨b, o + 6, none⟩ = some (.string r.sg)
  c7 : W.cell? ⟨b, o + 7, none⟩ = some (.slice r.ao r.an r.ac)
  c8 : W.cell? ⟨b, o + 8, none⟩ = some (.slice r.mo r.mn r.mc)
  c9 : W.cell? ⟨b, o + 9, none⟩ = some (.int .i64 r.tt)
  c10 : W.cell? ⟨b, o + 10, none⟩ = some (.int .i64 r.el)
  c11 : W.cell? ⟨b, o + 11, none⟩ = some (.int .i64 r.p)
  c12 : W.cell? ⟨b, o + 12, none⟩ = some (.int .i64 r.q)
theorem InsAt.below {W W' : World} {b o : Nat} {r : IR} (h : InsAt W b o r) (hb : Below W.heap.size W W') : InsAt W' b o r := by
  have e : ∀ k, W'.cell? ⟨b, k, none⟩ = W.cell? ⟨b, k, none⟩ := fun k => hb.cell (p := ⟨b, k, none⟩) h.lt
  exact ⟨Nat.lt_of_lt_of_le h.lt hb.size, (e _).trans h.c0, (e _).trans h.c1, (e _).trans h.c2, (e _).trans h.c3, (e _).trans h.c4, (e _).trans h.c5, (e _).trans h.c6, (e _).trans h.c7, (e _).trans h.c8, (e _).trans h.c9, (e _).trans h.c10, (e _).trans h.c11, (e _).trans h.c12⟩
/-- All of a function's. -/
def InsL (W : World) (A : Option Addr) (rs : List IR) : Prop := ∀ (i : Nat) (r : IR), rs[i]? = some r → ∃ b o, A = some ⟨b, o, none⟩ ∧ InsAt W b (o + i * 13) r
theorem InsL.below {W W' : World} {A : Option Addr} {rs : List IR} (h : InsL W A rs) (hb : Below W.heap.size W W') : InsL W' A rs := by
  intro i r hr
  obtain ⟨b, o, e, hh⟩ := h i r hr
  exact ⟨b, o, e, hh.below hb⟩
/-- It tells a bool; is it true, there are at most 400. -/
def LR (n : Nat) (e : Ending) : Prop := ∃ l : Bool, e = .returned (.bool l) ∧ (l = true → n ≤ 400)
set_option maxRecDepth 100000 in
set_option maxHeartbeats 8000000 in
theorem light_i (nm : ByteArray) (c1 : Int) (c3 : Bool) (c4 : ByteArray) (c5 : Int) (va : Option Addr) (nv cv : Nat) (fa : Option Addr) (nf cf : Nat) (A : Option Addr) (n cap : Nat) (rs : List IR) (F : Nat) (w : World)
    (hF : w.heap[F]? = some (.cells (codeO nm c1 c3 c4 c5 va nv cv fa nf cf A n cap) 42 (0, 0))) (hI : InsL w A rs) (hn : rs.length = n) :
    Calls Try.prog 15 #[smallV F] w fun e w' => LR n e ∧ Hid (Below w.heap.size w w') := by
  have HN := hid hn
  have HI := hid hI
  have HF := hid hF
  have HB := hid (below1 w (.cells #[n0, .slice (some ⟨F, 0, none⟩) 1 1] 47))
  have hm := fun i => cells_at (heap_alloc_new w (.cells #[n0, .slice (some ⟨F, 0, none⟩) 1 1] 47)) i
  clear hn hI hF
  go_enter Try.func15, Try.ntmps15
  go_wp2
  obtain ⟨W1, hW1⟩ : ∃ W1, w.alloc (.cells #[n0, .slice (some ⟨F, 0, none⟩) 1 1] 47) = W1 := ⟨_, rfl⟩
  have hM := hid (heap_alloc_new w (.cells #[n0, .slice (some ⟨F, 0, none⟩) 1 1] 47))
  rw [hW1] at hm HB hM ⊢
  have hs1 : w.heap.size < W1.heap.size := (Array.getElem?_eq_some_iff.1 hM.out).1
  clear hW1
  go_loopg [4] 0 (fun gk v4 wr => gk = 0 ∧ v4 = .int .i64 0 ∧ wr = W1)
  case atStart => exact ⟨rfl, rfl, rfl⟩
  case round =>
    obtain ⟨rfl, rfl, rfl⟩ := hrel
    go_wp2
    go_loopg [3, 5] 1 (fun gk v3 v5 wr2 => ∃ k : Nat, gk = 1 - k ∧ (k = 0 ∧ v3 = .int .i64 0 ∨ k = 1) ∧ (k = 1 → n ≤ 400) ∧ v5 = .int .i64 k ∧ Hid (Below w.heap.size w wr2) ∧ Hid (wr2.heap[w.heap.size]? = some (.cells #[n0, .slice (some ⟨F, 0, none⟩) 1 1] 47 (0, 0))))
    case atStart => exact ⟨0, by omega, .inl ⟨rfl, rfl⟩, by omega, rfl, HB, hM⟩
    case round =>
      obtain ⟨k, rfl, hk, hk4, rfl, HB2, HM2⟩ := hrel
      have hm2 := cells_at HM2.out
      clear hm hM HB
      rcases hk with ⟨rfl, rfl⟩ | rfl
      · have hf := cells_at (old_block HB2.out (Array.getElem?_eq_some_iff.1 HF.out).1 HF.out)
        have HB3 := hid (after HB2.out (below1 wr (.cells (codeO nm c1 c3 c4 c5 va nv cv fa nf cf A n cap) 42)) HB2.out.size)
        have HC := hid (heap_alloc_new wr (.cells (codeO nm c1 c3 c4 c5 va nv cv fa nf cf A n cap) 42))
        have hc := fun i => cells_at HC.out i
        by_cases g1 : 400 < (n : Int)
        · go_wp2
          go_ret
          exact ⟨⟨false, rfl, fun h => by cases h⟩, HB3⟩
        by_cases g2 : 400 < (nv : Int)
        · go_wp2
          go_ret
          exact ⟨⟨false, rfl, fun h => by cases h⟩, HB3⟩
        by_cases g3 : 60 < (nm.size : Int)
        · go_wp2
          go_ret
          exact ⟨⟨false, rfl, fun h => by cases h⟩, HB3⟩
        by_cases g4 : 40 < (nf : Int)
        · go_wp2
          go_ret
          exact ⟨⟨false, rfl, fun h => by cases h⟩, HB3⟩
        have g5 : ¬ 1200 < (n : Int) + (nv : Int) := by omega
        have gn : n ≤ 400 := by omega
        go_wp2
        have HM3 := hid (old_block (below1 wr (.cells (codeO nm c1 c3 c4 c5 va nv cv fa nf cf A n cap) 42)) (Array.getElem?_eq_some_iff.1 HM2.out).1 HM2.out)
        obtain ⟨W2, hW2⟩ : ∃ W2, wr.alloc (.cells (codeO nm c1 c3 c4 c5 va nv cv fa nf cf A n cap) 42) = W2 := ⟨_, rfl⟩
        obtain ⟨C, hC⟩ : ∃ C, wr.heap.size = C := ⟨_, rfl⟩
        rw [hW2] at hc HB3 HC HM3 ⊢
        rw [hC] at hc HC ⊢
        clear hW2 hC hf hm2 hc g1 g2 g3 g4 g5 hk4
        go_loopg [7] n (fun gk v7 wr3 => ∃ k : Nat, k ≤ n ∧ gk = n - k ∧ v7 = .int .i64 k ∧ Hid (Below w.heap.size w wr3) ∧ Hid (wr3.heap[C]? = some (.cells (codeO nm c1 c3 c4 c5 va nv cv fa nf cf A n cap) 42 (0, 0))) ∧ Hid (wr3.heap[w.heap.size]? = some (.cells #[n0, .slice (some ⟨F, 0, none⟩) 1 1] 47 (0, 0))))
        case atStart => exact ⟨0, by omega, by omega, rfl, HB3, HC, HM3⟩
        case round =>
          obtain ⟨k, hkn, rfl, rfl, HB4, HC4, HM4⟩ := hrel
          clear HB3 HC HM3 HB2 HM2
          have hc4 := fun i => cells_at HC4.out i
          by_cases hlt : k < n
          · have hlt' : (k : Int) < (n : Int) := by omega
            obtain ⟨r, hr⟩ : ∃ r, rs[k]? = some r := ⟨_, List.getElem?_eq_getElem (by rw [HN.out]; exact hlt)⟩
            obtain ⟨b, o, rfl, hi⟩ := HI.out k r hr
            have hi := hi.below HB4.out
            have e6 := hi.c6
            have e7 := hi.c7
            have e8 := hi.c8
            have HI2 := hid hi
            clear hi hr
            by_cases g1 : 40 < (r.an : Int)
            · go_wp2
              go_ret
              exact ⟨⟨false, rfl, fun h => by cases h⟩, HB4⟩
            by_cases g2 : 40 < (r.mn : Int)
            · go_wp2
              go_ret
              exact ⟨⟨false, rfl, fun h => by cases h⟩, HB4⟩
            by_cases g3 : 20 < (r.sg.size : Int)
            · go_wp2
              go_ret
              exact ⟨⟨false, rfl, fun h => by cases h⟩, HB4⟩
            go_wp2
            go_roundg (n - (k + 1))
            case measure => omega
            case rel => exact ⟨k + 1, by omega, rfl, rfl, HB4, HC4, HM4⟩
          · have hlt' : ¬ (k : Int) < (n : Int) := by omega
            go_wp2
            go_roundg (1 - 1)
            case measure => omega
            case rel => exact ⟨1, rfl, .inr rfl, fun _ => gn, rfl, HB4, HM4⟩
      · go_wp2
        go_ret
        exact ⟨⟨true, rfl, fun _ => hk4 trivial⟩, HB2⟩
end Go.Proofs.Ytplpjckkocccfaa
