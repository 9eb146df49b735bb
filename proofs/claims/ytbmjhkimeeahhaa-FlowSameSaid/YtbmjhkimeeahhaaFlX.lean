/- The edges of a code, as an iterator. Condition: fewer than a million instructions. -/
import Derived.Test.YtbmjhkimeeahhaaFlU
namespace Go.Proofs.Ytbmjhkimeeahhaa
open Go.RowKit Go.Maps Go.Shelf
set_option linter.unusedVariables false
set_option linter.unusedSimpArgs false
attribute [local go_sem] Oper.semAt_some
/-- The edges of one instruction, of the first ones. -/
def rowE (i : Nat) (r : InD) : List (Int × Int) := (nextL r i).map fun y => ((i : Int), y)
def eds (rs : List InD) : Nat → List (Int × Int)
  | 0 => []
  | i + 1 => eds rs i ++ (match rs[i]? with | some r => rowE i r | none => [])
theorem eds_succ {rs : List InD} {i : Nat} {r : InD} (h : rs[i]? = some r) : eds rs (i + 1) = eds rs i ++ rowE i r := by simp [eds, h]
theorem eds_pre (rs : List InD) (i k : Nat) : eds rs i <+: eds rs (i + k) := by
  induction k with
  | zero => exact List.prefix_refl _
  | succ k ih => exact ih.trans (List.prefix_append _ _)
theorem eds_part {rs : List InD} {i n : Nat} {r : InD} (h : rs[i]? = some r) (hn : i < n) (j : Nat) : eds rs i ++ (rowE i r).take j <+: eds rs n := by
  have h1 := eds_pre rs (i + 1) (n - (i + 1))
  rw [show i + 1 + (n - (i + 1)) = n by omega, eds_succ h] at h1
  exact (List.prefix_append_right_inj _ |>.2 (List.take_prefix _ _)).trans h1
theorem row_get {i j : Nat} {r : InD} {y : Int} (h : (nextL r i)[j]? = some y) : (rowE i r).take (j + 1) = (rowE i r).take j ++ [((i : Int), y)] := by
  rw [List.take_add_one, rowE, List.getElem?_map, h]
  rfl
/-- What holds of memory while edges come. -/
structure EdS (w0 : World) (S Cb : Nat) (cv : Array Value) (J : List (Int × Int) → World → Prop) (pre : List (Int × Int)) (W : World) : Prop where
  j : J pre W
  old : Below w0.heap.size w0 W
  box : W.heap[Cb]? = some (.cells cv 30 (0, 0))
  sz : S ≤ W.heap.size
section
variable {w0 W W' : World} {S Cb : Nat} {cv : Array Value} {J : List (Int × Int) → World → Prop} {pre pre' : List (Int × Int)} {fp : World → Nat → Prop}
theorem EdS.later (hc : CalE S (fun k => k < w0.heap.size ∨ k = Cb) J fp) (h : EdS w0 S Cb cv J pre W) (hb : Below W.heap.size W W') : EdS w0 S Cb cv J pre W' :=
  ⟨(hc.keep h.j (hb.mono h.sz) (fun k hk _ => hb.block k hk)).1, after h.old hb h.old.size, lay hb h.box, Nat.le_trans h.sz hb.size⟩
theorem EdS.fpk (hc : CalE S (fun k => k < w0.heap.size ∨ k = Cb) J fp) (h : EdS w0 S Cb cv J pre W) (hb : Below W.heap.size W W') : ∀ k, fp W' k ↔ fp W k :=
  (hc.keep h.j (hb.mono h.sz) (fun k hk _ => hb.block k hk)).2
theorem EdS.call (hc : CalE S (fun k => k < w0.heap.size ∨ k = Cb) J fp) (h : EdS w0 S Cb cv J pre W) (hs : CalS fp W W') (hj : J pre' W') : EdS w0 S Cb cv J pre' W' :=
  ⟨hj, h.old.trans ⟨hs.os, hs.tape, hs.output, hs.size, fun k hk => hs.block k (by have := h.old.size; omega) (fun hf => (hc.lt h.j hf).2 (.inl hk))⟩, (hs.block Cb (Array.getElem?_eq_some_iff.1 h.box).1 (fun hf => (hc.lt h.j hf).2 (.inr rfl))).trans h.box, Nat.le_trans h.sz hs.size⟩
theorem ed_call {A : Option Addr} {L : List Int} (h : EdM W fp A L) (hs : CalS fp W W') : EdM W' fp A L := by
  rcases h with h | ⟨b, o, cs, h1, h2, h3, h4⟩
  · exact .inl h
  · have hb := (Array.getElem?_eq_some_iff.1 h2).1
    refine .inr ⟨b, o, cs, h1, (hs.block b hb h3).trans h2, fun hf => ?_, h4⟩
    rcases hs.fp b hf with h5 | h5
    · exact h3 h5
    · omega
theorem ed_cell {A : Option Addr} {L : List Int} {j : Nat} {y : Int} (h : EdM W fp A L) (hj : L[j]? = some y) : ∃ b o, A = some ⟨b, o, none⟩ ∧ W.cell? ⟨b, o + j, none⟩ = some (.int .i64 y) := by
  rcases h with rfl | ⟨b, o, cs, h1, h2, -, h4⟩
  · simp at hj
  · exact ⟨b, o, h1, by rw [cells_at h2]; exact h4 j y hj⟩
end
abbrev encP (p : Int × Int) : Array Value := #[.int .i64 p.1, .int .i64 p.2]
def PairPost (J Jx : List (Int × Int) → World → Prop) (L : List (Int × Int)) (e : Ending) (W' : World) : Prop := (∃ v, e = .returned v) ∧ (J L W' ∨ ∃ pre, pre <+: L ∧ Jx pre W')
set_option maxRecDepth 100000 in
set_option maxHeartbeats 8000000 in
theorem edges_s (nn : Nat) (hnn : 1 ≤ nn) (x : CoD) (va fa ia : Option Addr) (vc fc ic : Nat) (w0 w : World) (Cb : Nat) (hs : x.ins.length < 1000000) (hC : RowM 13 InAt w0 ia x.ins) (hold : Below w0.heap.size w0 w) (hcb : w.heap[Cb]? = some (.cells (CoV x va vc fa fc ia ic) 30 (0, 0))) :
    SeqFp nn 36 #[.pointer (some ⟨Cb, 0, none⟩)] encP (fun k => k < w0.heap.size ∨ k = Cb) (eds x.ins x.ins.length) w := by
  intro lo J Jx fp W hW hcal hY h0
  refine callsIn_wide.2 ?_
  show Calls Try.prog 36 #[.func (.yield lo) #[] #[], .pointer (some ⟨Cb, 0, none⟩)] W (PairPost J Jx (eds x.ins x.ins.length))
  have HE0 : Hid (EdS w0 W.heap.size Cb (CoV x va vc fa fc ia ic) J (eds x.ins 0) W) := hid ⟨h0, hold.trans (hW.mono hold.size), lay hW hcb, Nat.le_refl _⟩
  have hc1 := cells_at HE0.out.box
  have HCal := hid hcal
  have HY := hid hY
  have HC := hid hC
  have HS := hid hs
  clear hW hcal hY h0 hs hC hold hcb
  go_enter Try.func36, Try.ntmps36
  go_wp2
  clear hc1
  go_loopg [10] x.ins.length (fun gk p wr => ∃ k : Nat, k ≤ x.ins.length ∧ gk = x.ins.length - k ∧ p = .int .i64 k ∧ Hid (EdS w0 W.heap.size Cb (CoV x va vc fa fc ia ic) J (eds x.ins k) wr))
  case atStart => exact ⟨0, by omega, by omega, rfl, HE0⟩
  case round =>
    clear HE0
    obtain ⟨k, hk, rfl, rfl, HE⟩ := hrel
    by_cases hlt : k < x.ins.length
    · have hlt' : (k : Int) < (x.ins.length : Int) := by omega
      have k0 : (0 : Int) ≤ (k : Int) := by omega
      have hk6 : (k : Int) < 1000000 := by have := HS.out; omega
      have n9 : (x.ins.length : Int) ≤ 9223372036854775807 := by have := HS.out; omega
      obtain ⟨r, hr⟩ := get_some (l := x.ins) (i := k) rfl hlt
      obtain ⟨bi, oi, rfl, hbi, ao, ac, mo, mc, hci, him⟩ := (HC.out.later in_stays HE.out.old).2 k r hr
      have d0 : wr.cell? ⟨bi, oi + k * 13, none⟩ = some (.int .i64 r.op) := hci 0 _ rfl
      have d1 := hci 1 _ rfl
      have d2 := hci 2 _ rfl
      have d3 := hci 3 _ rfl
      have d4 := hci 4 _ rfl
      have d5 := hci 5 _ rfl
      have d6 := hci 6 _ rfl
      have d7 := hci 7 _ rfl
      have d8 := hci 8 _ rfl
      have d9 := hci 9 _ rfl
      have d10 := hci 10 _ rfl
      have d11 := hci 11 _ rfl
      have d12 := hci 12 _ rfl
      have HR := hid hr
      have HX4 := hid (heap_alloc_new wr (.cells (InV r ao ac mo mc) 58))
      have hx4 := cells_at HX4.out
      have HE2 := hid (HE.out.later HCal.out (below1 wr (.cells (InV r ao ac mo mc) 58)))
      obtain ⟨L, hL⟩ : ∃ L, nextL r (k : Int) = L := ⟨_, rfl⟩
      have HNC := hid (fun W => by have := next_c r (k : Int) k0 hk6 ao mo ac mc W; rwa [hL] at this)
      have HL := hid hL
      clear hL hci him hbi hr
      go_wp2_with (go_at_call 37; go_must (refine (HNC.out _).mono ?_); rintro e w5 ⟨v5, rfl, hne5, hb5⟩; have HE5 := hid (HE2.out.later HCal.out hb5.out); have hfp5 := HE2.out.fpk HCal.out hb5.out; obtain ⟨A5, rfl, hed5⟩ := EdM.new (fp := fp) hne5.out (fun k hk => (HCal.out.lt HE2.out.j ((hfp5 k).1 hk)).1); have HD5 := hid hed5; clear hne5 hb5 hed5 hfp5)
      obtain ⟨q, hq⟩ : ∃ q, L.length = q := ⟨_, rfl⟩
      have HQ := hid hq
      have hq2 : q ≤ 2 := by have := next_few r (k : Int); rw [HL.out, hq] at this; exact this
      have HJ0 : Hid (EdS w0 W.heap.size Cb (CoV x va vc fa fc (some ⟨bi, oi, none⟩) ic) J (eds x.ins k ++ (rowE k r).take 0) w5) := hid (by rw [List.take_zero, List.append_nil]; exact HE5.out)
      have HLR : Hid ((rowE k r).length = q) := hid (by rw [rowE, List.length_map, HL.out, hq])
      rw [hq]
      clear hq hx4 d0 d1 d2 d3 d4 d5 d6 d7 d8 d9 d10 d11 d12 HE HE2 HE5 HX4 HNC
      go_loopg [19] q (fun gj p wi => ∃ j : Nat, j ≤ q ∧ gj = q - j ∧ p = .int .i64 j ∧ Hid (EdS w0 W.heap.size Cb (CoV x va vc fa fc (some ⟨bi, oi, none⟩) ic) J (eds x.ins k ++ (rowE k r).take j) wi) ∧ Hid (EdM wi fp A5 L))
      case atStart => exact ⟨0, by omega, by omega, rfl, HJ0, HD5⟩
      case round =>
        clear HJ0 HD5
        obtain ⟨j, hj, rfl, rfl, HE, HD⟩ := hrel
        by_cases hjq : j < q
        · have hjq' : (j : Int) < (q : Int) := by omega
          have j0 : (0 : Int) ≤ (j : Int) := by omega
          obtain ⟨y, hy⟩ := get_some HQ.out hjq
          obtain ⟨be, oe, rfl, hcy⟩ := ed_cell HD.out hy
          have HT := hid (row_get (i := k) (r := r) (j := j) (y := y) (by rw [HL.out]; exact hy))
          have HPre : Hid ((eds x.ins k ++ (rowE k r).take j) ++ [((k : Int), y)] <+: eds x.ins x.ins.length) := hid (by
            have := eds_part HR.out hlt (j + 1)
            rw [HT.out, ← List.append_assoc] at this
            exact this)
          have hyy := HY.out _ ((k : Int), y) wr HE.out.j HPre.out HE.out.sz
          obtain ⟨fn, tmps, assign, body, hy2, hR⟩ := hyy
          clear hy
          go_upto_region 6 with (fail)
          refine (wpIn_wide (n := nn)).1 ?_
          clear hcy
          gi_wp2
          refine hR.mono ?_
          rintro e W3 (⟨rfl, hj3, hk3⟩ | ⟨rfl, hjx3⟩)
          case inr =>
            have HJX := hid hjx3
            clear hjx3
            gi_wp2
            go_wp2
            refine bodyPost_ret (results_none rfl _ _ _) rfl ?_
            exact ⟨⟨_, rfl⟩, .inr ⟨_, HPre.out, HJX.out⟩⟩
          have HE3 : Hid (EdS w0 W.heap.size Cb (CoV x va vc fa fc (some ⟨bi, oi, none⟩) ic) J (eds x.ins k ++ (rowE k r).take (j + 1)) W3) := hid (by rw [HT.out, ← List.append_assoc]; exact HE.out.call HCal.out hk3 hj3)
          have HD3 := hid (ed_call HD.out hk3)
          clear hj3 hk3 hy2 hR
          gi_wp2
          go_wp2
          go_roundg (q - (j + 1))
          case measure => omega
          case rel => exact ⟨j + 1, by omega, rfl, rfl, HE3, HD3⟩
        · have hjq' : ¬ (j : Int) < (q : Int) := by omega
          have HE6 : Hid (EdS w0 W.heap.size Cb (CoV x va vc fa fc (some ⟨bi, oi, none⟩) ic) J (eds x.ins (k + 1)) wr) := hid (by
            have h1 := HE.out
            rw [List.take_of_length_le (by rw [HLR.out]; omega), ← eds_succ HR.out] at h1
            exact h1)
          go_wp2
          go_roundg (x.ins.length - (k + 1))
          case measure => omega
          case rel => exact ⟨k + 1, by omega, rfl, rfl, HE6⟩
    · have hlt' : ¬ (k : Int) < (x.ins.length : Int) := by omega
      obtain rfl : k = x.ins.length := by omega
      go_wp2
      go_end0
      exact ⟨⟨_, rfl⟩, .inl HE.out.j⟩
set_option maxRecDepth 100000 in
theorem edges_f (cv : Array Value) (hcv : cv.size = 8) (w : World) : Calls Try.prog 25 #[.agg cv] w fun e w' => e = .returned (.func (.func 36) #[] #[.pointer (some ⟨w.heap.size, 0, none⟩)]) ∧ w' = w.alloc (.cells cv 30) := by
  go_enter Try.func25, Try.ntmps25
  go_wp2
  go_ret
  exact ⟨rfl, rfl⟩
end Go.Proofs.Ytbmjhkimeeahhaa
