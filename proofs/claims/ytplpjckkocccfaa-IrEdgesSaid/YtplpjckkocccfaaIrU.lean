/- The edges of a function, one by one. Condition: at most 400 instructions. -/
import Derived.Test.YtplpjckkocccfaaIrT
import Derived.Test.YtplpjckkocccfaaIrE
namespace Go.Proofs.Ytplpjckkocccfaa
open Go.RowKit Go.Maps Go.Shelf
set_option linter.unusedVariables false
set_option linter.unusedSimpArgs false
attribute [local go_sem] Oper.semAt_some
/-- A slice of numbers whose block is new. -/
def NewRow (B : Nat) (W : World) (v : Value) (xs : List Int) : Prop := ∃ a cap, v = .slice a xs.length cap ∧ (xs ≠ [] → ∃ b, a = some ⟨b, 0, none⟩ ∧ B ≤ b ∧ b < W.heap.size ∧ Row W b xs)
theorem newRow_new (w : World) (o : Obj) (xs : List Int) (cs : Array Value) (cap : Nat) (h : cs.toList = xs.map (Value.int .i64)) : NewRow w.heap.size ((w.alloc o).alloc (.cells cs 3)) (.slice (some ⟨w.heap.size + 1, 0, none⟩) xs.length cap) xs :=
  ⟨_, _, rfl, fun _ => ⟨_, rfl, by omega, by simp, row_new w o xs cs h⟩⟩
theorem newRow_nil (B : Nat) (W : World) : NewRow B W n0 [] := ⟨_, _, rfl, fun h => absurd rfl h⟩
set_option maxHeartbeats 4000000 in
theorem next_n (op d a b tt el p : Int) (c4 c5 c6 args c8 c11 c12 : Value) (w : World) (h0 : 0 ≤ p) (h1 : p ≤ 10000) : Calls Try.prog 11 #[ins op d a b c4 c5 c6 args c8 tt el c11 c12, .int .i64 p] w fun e w' =>
    ∃ v, e = .returned v ∧ Hid (NewRow w.heap.size w' v (nxt op p tt el)) ∧ Hid (Below w.heap.size w w') := by
  have hm := no_max h1
  have HB1 := hid (below1 w)
  have HB2 := hid (below2 w)
  cases e16 : (op == 16)
  case true =>
    rw [nxt1 e16]
    go_enter Try.func11, Try.ntmps11
    go_wp2
    go_ret
    exact ⟨_, rfl, hid (newRow_new w _ [tt] _ 1 rfl), HB2.out _ _⟩
  case false =>
    cases e17 : (op == 17)
    case true =>
      cases et : (tt == el)
      case true =>
        rw [nxt2 e17 et]
        go_enter Try.func11, Try.ntmps11
        go_wp2
        go_ret
        exact ⟨_, rfl, hid (newRow_new w _ [tt] _ 1 rfl), HB2.out _ _⟩
      case false =>
        rw [nxt3 e17 et]
        go_enter Try.func11, Try.ntmps11
        go_wp2
        go_ret
        exact ⟨_, rfl, hid (newRow_new w _ [tt, el] _ 2 rfl), HB2.out _ _⟩
    case false =>
      cases e18 : (op == 18)
      case true =>
        rw [nxt4 e18]
        go_enter Try.func11, Try.ntmps11
        go_wp2
        go_ret
        exact ⟨_, rfl, hid (newRow_nil _ _), HB1.out _⟩
      case false =>
        rw [nxt5 e16 e17 e18]
        go_enter Try.func11, Try.ntmps11
        go_wp2
        go_ret
        exact ⟨_, rfl, hid (newRow_new w _ [p + 1] _ 1 rfl), HB2.out _ _⟩

/-- The edges of one instruction, of the first ones. -/
def rowE (i : Nat) (r : IR) : List (Int × Int) := (nxt r.op i r.tt r.el).map fun x => ((i : Int), x)
def eds (rs : List IR) : Nat → List (Int × Int)
  | 0 => []
  | i + 1 => eds rs i ++ (match rs[i]? with | some r => rowE i r | none => [])
theorem eds_succ {rs : List IR} {i : Nat} {r : IR} (h : rs[i]? = some r) : eds rs (i + 1) = eds rs i ++ rowE i r := by
  simp [eds, h]
theorem eds_pre (rs : List IR) (i k : Nat) : eds rs i <+: eds rs (i + k) := by
  induction k with
  | zero => exact List.prefix_refl _
  | succ k ih => exact ih.trans (List.prefix_append _ _)
theorem eds_part {rs : List IR} {i n : Nat} {r : IR} (h : rs[i]? = some r) (hn : i < n) (j : Nat) : eds rs i ++ (rowE i r).take j <+: eds rs n := by
  have h1 := eds_pre rs (i + 1) (n - (i + 1))
  rw [show i + 1 + (n - (i + 1)) = n by omega, eds_succ h] at h1
  exact (List.prefix_append_right_inj _ |>.2 (List.take_prefix _ _)).trans h1
theorem pre_lt {α : Type} {pre l : List α} {x : α} (h : pre ++ [x] <+: l) : pre.length < l.length := by
  have := h.length_le
  simp at this
  omega
theorem row_get {i j : Nat} {r : IR} {x : Int} (h : (nxt r.op i r.tt r.el)[j]? = some x) : (rowE i r).take (j + 1) = (rowE i r).take j ++ [((i : Int), x)] := by
  rw [List.take_add_one, rowE, List.getElem?_map, h]
  rfl
/-- What a body keeps: blocks below N, and all cells but those of one block. -/
structure KE (N Nb : Nat) (W W' : World) : Prop where
  size : W.heap.size ≤ W'.heap.size
  low : ∀ k, k < N → W'.heap[k]? = W.heap[k]?
  cells : ∀ (k : Nat) (vs : Array Value) (t : TypeId) (z : Nat × Nat), k ≠ Nb → W.heap[k]? = some (.cells vs t z) → W'.heap[k]? = some (.cells vs t z)
theorem KE.trans {N Nb : Nat} {A B C : World} (h : KE N Nb A B) (k : KE N Nb B C) : KE N Nb A C :=
  ⟨Nat.le_trans h.size k.size, fun i hi => (k.low i hi).trans (h.low i hi), fun i vs t z hn hi => k.cells i vs t z hn (h.cells i vs t z hn hi)⟩
theorem KE.of_below {N Nb : Nat} {A B : World} (h : Below A.heap.size A B) (hN : N ≤ A.heap.size) : KE N Nb A B :=
  ⟨h.size, fun i hi => h.block i (by omega), fun i vs t z _ hi => old_block h (Array.getElem?_eq_some_iff.1 hi).1 hi⟩
theorem KE.cell {N Nb : Nat} {A B : World} (h : KE N Nb A B) {b j : Nat} {v : Value} (hb : b ≠ Nb) (hc : A.cell? ⟨b, j, none⟩ = some v) : B.cell? ⟨b, j, none⟩ = some v := by
  unfold World.cell? at hc
  cases ho : A.heap[b]? with
  | none => simp [ho] at hc
  | some o =>
    cases o with
    | cells vs t z => unfold World.cell?; simp only [ho] at hc; simp only [h.cells b vs t z hb ho]; exact hc
    | _ => simp [ho] at hc
theorem KE.row {N Nb : Nat} {A B : World} (h : KE N Nb A B) {b : Nat} {xs : List Int} (hb : b ≠ Nb) (hr : Row A b xs) : Row B b xs := fun j x hx => h.cell hb (hr j x hx)
/-- All of a function's instructions, below a bound. -/
def InsN (N : Nat) (W : World) (A : Option Addr) (rs : List IR) : Prop := ∀ (i : Nat) (r : IR), rs[i]? = some r → ∃ b o, A = some ⟨b, o, none⟩ ∧ b < N ∧ InsAt W b (o + i * 13) r
theorem InsN.at {N : Nat} {W W' : World} {A : Option Addr} {rs : List IR} (h : InsN N W A rs) (hs : N ≤ W'.heap.size) (hb : ∀ k, k < N → W'.heap[k]? = W.heap[k]?) : InsN N W' A rs := by
  intro i r hr
  obtain ⟨b, o, e, hlt, q⟩ := h i r hr
  have f : ∀ k, W'.cell? ⟨b, k, none⟩ = W.cell? ⟨b, k, none⟩ := fun k => World.cell?_of_block (hb b hlt)
  exact ⟨b, o, e, hlt, by omega, (f _).trans q.c0, (f _).trans q.c1, (f _).trans q.c2, (f _).trans q.c3, (f _).trans q.c4, (f _).trans q.c5, (f _).trans q.c6, (f _).trans q.c7, (f _).trans q.c8, (f _).trans q.c9, (f _).trans q.c10, (f _).trans q.c11, (f _).trans q.c12⟩
/-- What holds between two rounds. -/
structure EM (N : Nat) (W wr : World) : Prop where
  size : W.heap.size ≤ wr.heap.size
  low : ∀ k, k < N → wr.heap[k]? = W.heap[k]?
theorem EM.ke {N Nb : Nat} {W A B : World} (h : EM N W A) (k : KE N Nb A B) : EM N W B := ⟨Nat.le_trans h.size k.size, fun i hi => (k.low i hi).trans (h.low i hi)⟩
theorem abides_below {B : Nat} {J : List (Int × Int) → World → Prop} (h : AbidesFrom B J) (s : List (Int × Int)) (W W' : World) (hb : Below W.heap.size W W') (hs : J s W) : J s W' :=
  h s W W' none hs ⟨hb.os, hb.tape, hb.output, hb.size, fun k hk _ => hb.block k hk⟩ (fun r e => by cases e)
theorem abides_drew {B : Nat} {J : List (Int × Int) → World → Prop} (h : AbidesFrom B J) (s : List (Int × Int)) (W : World) (hs : J s W) : J s W.drew :=
  h s W _ none hs ⟨rfl, rfl, rfl, Nat.le_refl _, fun k hk _ => rfl⟩ (fun r e => by cases e)
theorem nxt_two (op p tt el : Int) : (nxt op p tt el).length ≤ 2 := by
  unfold nxt
  split
  · simp
  · split
    · split <;> simp
    · split <;> simp
abbrev encP (x : Int × Int) : Array Value := #[.int .i64 x.1, .int .i64 x.2]
abbrev recO (r : IR) : Array Value := #[.int .i64 r.op, .int .i64 r.d, .int .i64 r.a, .int .i64 r.b, .int .i64 r.f, .int .i64 r.n, .string r.sg, .slice r.ao r.an r.ac, .slice r.mo r.mn r.mc, .int .i64 r.tt, .int .i64 r.el, .int .i64 r.p, .int .i64 r.q]
set_option maxRecDepth 100000 in
set_option maxHeartbeats 8000000 in
theorem edges_s (m : Nat) (hm1 : 1 ≤ m) (N Nb M : Nat) (nm : ByteArray) (c1 : Int) (c3 : Bool) (c4 : ByteArray) (c5 : Int) (va : Option Addr) (nv cv : Nat) (fa : Option Addr) (nf cf : Nat) (A : Option Addr) (n cap : Nat) (rs : List IR) (w : World)
    (hM : w.heap[M]? = some (.cells (codeO nm c1 c3 c4 c5 va nv cv fa nf cf A n cap) 42 (0, 0))) (hI : InsN N w A rs) (hn : rs.length = n) (hn4 : n ≤ 400) (hNb : Nb < w.heap.size) (hNN : N ≤ Nb) :
    SeqStopsK Fence.wide m Try.prog 23 #[.pointer (some ⟨M, 0, none⟩)] encP (KE N Nb) (fun xs => xs = eds rs n) (fun pre => pre <+: eds rs n) (eds rs n).length w := by
  intro l J Jx W hW hJ hJx hY h0
  have HN := hid hn
  have HI := hid (hI.at (by have := hW.size; omega) (fun k hk => hW.block k (by omega)))
  have hm := cells_at (old_block hW (Array.getElem?_eq_some_iff.1 hM).1 hM)
  have HNb : Hid (Nb < W.heap.size) := hid (by have := hW.size; omega)
  have HNN := hid hNN
  clear hn hI hM hW hNb
  have HJ := hid hJ
  have HY := hid hY
  have H0 := hid h0
  clear hJ hJx hY h0
  refine callsIn_of_wp Try.func23 rfl trivial ?_ rfl
  simp only [Try.ntmps23, List.size_toArray, List.length_cons, List.length_nil, Nat.reduceAdd, Nat.reduceSub, Array.replicate_succ, Array.replicate_zero, List.push_toArray, List.append_toArray, List.nil_append, List.cons_append]
  gi_wp2
  clear hm
  have HE0 : Hid (EM N W W) := hid ⟨Nat.le_refl _, fun _ _ => rfl⟩
  have HJ0 : Hid (J (eds rs 0) W) := hid H0.out
  clear H0
  gi_loopw [10] (fun p wr => ∃ k : Nat, k ≤ n ∧ p = .int .i64 k ∧ Hid (J (eds rs k) wr) ∧ Hid (EM N W wr)) (fun p wr => n - (intOf p).toNat)
  case atStart => exact ⟨0, by omega, rfl, HJ0, HE0⟩
  case round =>
    obtain ⟨k, hkn, rfl, HJ1, HE1⟩ := hrel
    clear HJ0 HE0
    by_cases hlt : k < n
    · have hlt' : (k : Int) < (n : Int) := by omega
      obtain ⟨r, hr⟩ : ∃ r, rs[k]? = some r := ⟨_, List.getElem?_eq_getElem (by rw [HN.out]; exact hlt)⟩
      obtain ⟨b, o, rfl, hbN, hi⟩ := HI.out.at (W' := wr) (by have := HE1.out.size; have := HNb.out; have := HNN.out; omega) HE1.out.low k r hr
      have e0 := hi.c0
      have e1 := hi.c1
      have e2 := hi.c2
      have e3 := hi.c3
      have e4 := hi.c4
      have e5 := hi.c5
      have e6 := hi.c6
      have e7 := hi.c7
      have e8 := hi.c8
      have e9 := hi.c9
      have e10 := hi.c10
      have e11 := hi.c11
      have e12 := hi.c12
      have HR := hid hr
      clear hi hr
      have hsz := HE1.out.size
      have HOb := hid (heap_alloc_new wr (.cells (recO r) 26))
      have hx := cells_at HOb.out
      gi_wp2_with (refine ⟨trivial, ?_⟩; gi_at_call 11; refine (callsIn_wide.2 (next_n r.op r.d r.a r.b r.tt r.el (k : Int) _ _ _ _ _ _ _ _ (by omega) (by omega))).mono ?_; rintro e W2 ⟨v, rfl, HV, HB⟩; obtain ⟨ra, rc, rfl, hrow⟩ := HV.out)
      have hB2 := hid (after (below1 wr (.cells (recO r) 26)) HB.out (below1 wr (.cells (recO r) 26)).size)
      have HK2 : Hid (KE N Nb wr W2) := hid (KE.of_below hB2.out (by have := HNb.out; have := HNN.out; omega))
      have HJ2 := hid (abides_below HJ.out _ _ _ hB2.out HJ1.out)
      have HE2 := hid (HE1.out.ke HK2.out)
      have HRow : Hid (nxt r.op (k : Int) r.tt r.el ≠ [] → ∃ rb, ra = some ⟨rb, 0, none⟩ ∧ rb ≠ Nb ∧ Row W2 rb (nxt r.op (k : Int) r.tt r.el)) := hid (fun h => by
        obtain ⟨rb, e, h1, h2, h3⟩ := hrow h
        exact ⟨rb, e, by have := HNb.out; simp only [World.size_alloc] at h1; omega, h3⟩)
      have HG := hid (fun (j : Nat) (x : Int) (h : (nxt r.op (k : Int) r.tt r.el)[j]? = some x) => row_get h)
      have HLen : Hid ((rowE k r).length = (nxt r.op (k : Int) r.tt r.el).length) := hid (by simp [rowE])
      have HP := hid (fun j => eds_part HR.out hlt j)
      clear hrow HV HB hB2 HK2 HJ1 HE1 HOb hx e0 e1 e2 e3 e4 e5 e6 e7 e8 e9 e10 e11 e12
      obtain ⟨xs, hxs⟩ : ∃ xs, nxt r.op (k : Int) r.tt r.el = xs := ⟨_, rfl⟩
      obtain ⟨q, hq⟩ : ∃ q, xs.length = q := ⟨_, rfl⟩
      rw [hxs] at HRow HG HLen ⊢
      rw [hq] at HLen ⊢
      have HQ := hid hq
      have HJ3 : Hid (J (eds rs k ++ (rowE k r).take 0) W2) := hid (by simpa using HJ2.out)
      have hq2 : q ≤ 2 := by rw [← hq, ← hxs]; exact nxt_two _ _ _ _
      clear hxs hq HJ2
      gi_loopw [19] (fun p wr2 => ∃ j : Nat, j ≤ q ∧ p = .int .i64 j ∧ Hid (J (eds rs k ++ (rowE k r).take j) wr2) ∧ Hid (EM N W wr2) ∧ Hid (xs ≠ [] → ∃ rb, ra = some ⟨rb, 0, none⟩ ∧ rb ≠ Nb ∧ Row wr2 rb xs)) (fun p wr2 => q - (intOf p).toNat)
      case atStart => exact ⟨0, by omega, rfl, HJ3, HE2, HRow⟩
      case round =>
        obtain ⟨j, hjq, rfl, HJ4, HE4, HRow4⟩ := hrel
        clear HJ3 HE2 HRow
        by_cases hlj : j < q
        · have hlj' : (j : Int) < (q : Int) := by omega
          obtain ⟨x, hx⟩ : ∃ x, xs[j]? = some x := ⟨_, List.getElem?_eq_getElem (by rw [HQ.out]; exact hlj)⟩
          obtain ⟨rb, rfl, hrb, hrow⟩ := HRow4.out (by rintro rfl; simp at hx)
          have hc := hrow j x hx
          have HRb := hid hrow
          have HT := hid (HG.out j x hx)
          have HPre : Hid ((eds rs k ++ (rowE k r).take j) ++ [((k : Int), x)] <+: eds rs n) := hid (by
            have := HP.out (j + 1)
            rw [HT.out, ← List.append_assoc] at this
            exact this)
          clear hrow hx HRow4
          obtain ⟨fn, tmps, assign, body, hy, hR⟩ := HY.out _ ((k : Int), x) _ HJ4.out (pre_lt HPre.out)
          gi_wp2
          refine hR.mono ?_
          rintro e W4 (⟨rfl, hJ5, hk5⟩ | ⟨rfl, hJx5⟩)
          · have HJ5 : Hid (J (eds rs k ++ (rowE k r).take (j + 1)) W4) := hid (by rw [HT.out, ← List.append_assoc]; exact hJ5)
            have HE5 := hid (HE4.out.ke hk5)
            have HR5 := hid (hk5.row hrb HRb.out)
            clear hJ5 hk5 HE4 HRb hc
            gi_wp2
            go_roundw
            case rel => exact ⟨j + 1, by omega, rfl, HJ5, HE5, hid (fun _ => ⟨rb, rfl, hrb, HR5.out⟩)⟩
            case measure => simp [intOf]; omega
          · gi_wp2
            refine bodyPost_ret (results_none rfl _ _ _) rfl ?_
            exact ⟨⟨_, rfl⟩, .inr ⟨_, HPre.out, hJx5⟩⟩
        · have hlj' : ¬ (j : Int) < (q : Int) := by omega
          have hJ6 := HJ4.out
          rw [List.take_of_length_le (by rw [HLen.out]; omega), ← eds_succ HR.out] at hJ6
          have HJ6 := hid hJ6
          clear hJ6
          gi_wp2
          go_roundw
          case rel => exact ⟨k + 1, by omega, rfl, HJ6, HE4⟩
          case measure => simp [intOf]; omega
    · have hlt' : ¬ (k : Int) < (n : Int) := by omega
      obtain rfl : k = n := by omega
      gi_wp2
      go_end0
      exact ⟨⟨_, rfl⟩, .inl HJ1.out⟩
end Go.Proofs.Ytplpjckkocccfaa
