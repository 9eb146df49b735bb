/- Blocks, by the program. Condition: fewer than a million instructions. -/
import Derived.Test.YtbmjhkimeeahhaaFmA
import Derived.Test.YtbmjhkimeeahhaaFlR
namespace Go.Proofs.Ytbmjhkimeeahhaa
open Go.RowKit Go.Maps
set_option linter.unusedVariables false
set_option linter.unusedSimpArgs false
theorem info48 : (Try.prog.info? 48).map (fun i => (i.zero, i.size, i.bytes)) = some (some (.agg #[.int .i64 0, .int .i64 0]), 2, 16) := by kernel_rfl
/-- The last stretch goes on. -/
def setLast (l : List (Nat × Nat)) (i : Nat) : List (Nat × Nat) := l.dropLast ++ [(((l.getLast?).getD (0, 0)).1, i)]
/-- The stretches of the first i. -/
def blkL (R B : Met) : Nat → List (Nat × Nat)
  | 0 => []
  | i + 1 => if R i then (if B i then blkL R B i ++ [(i, i)] else setLast (blkL R B i) i) else blkL R B i
theorem setLast_app (l : List (Nat × Nat)) (a b i : Nat) : setLast (l ++ [(a, b)]) i = l ++ [(a, i)] := by simp [setLast]
theorem blk_some {R B : Met} (hR : R 0 = true) (hB : B 0 = true) : ∀ i, 0 < i → ∃ l a b, blkL R B i = l ++ [(a, b)]
  | 0, h => absurd h (by omega)
  | i + 1, _ => by
    unfold blkL
    by_cases h0 : i = 0
    · subst h0
      rw [hR, hB]
      exact ⟨[], 0, 0, by simp [blkL]⟩
    · obtain ⟨l, a, b, e⟩ := blk_some hR hB i (by omega)
      cases R i
      · exact ⟨l, a, b, by simpa using e⟩
      · cases B i
        · exact ⟨l, a, i, by simp [e, setLast_app]⟩
        · exact ⟨blkL R B i, i, i, by simp⟩
theorem blk_len (R B : Met) : ∀ i, (blkL R B i).length ≤ i
  | 0 => by simp [blkL]
  | i + 1 => by
    have ih := blk_len R B i
    unfold blkL
    split
    · split
      · simp; omega
      · unfold setLast
        by_cases h : blkL R B i = []
        · rw [h]; simp
        · have : 0 < (blkL R B i).length := List.length_pos_iff.2 h
          simp; omega
    · omega
abbrev pF (p : Nat × Nat) : List Value := [.int .i64 (p.1 : Int), .int .i64 (p.2 : Int)]
theorem pF_len (p : Nat × Nat) : (pF p).length = 2 := rfl
abbrev OwnP (W : World) (base : Nat) (v : Value) (L : List (Nat × Nat)) : Prop := W.ownsRow base 48 2 v L.length (L.flatMap pF)
theorem beg_first (x : CoD) (R : Met) : ∀ i, 0 < i → begK x R i 0 = true
  | 0, h => absurd h (by omega)
  | i + 1, _ => by
    by_cases h0 : i = 0
    · subst h0; simp [begK]
    · simp [begK, beg_first x R i (by omega)]
theorem pair_last {W : World} {base g cap c k a b : Nat} {l : List (Nat × Nat)} (h : W.ownsRow base 48 2 (.slice (some ⟨g, 0, none⟩) c cap) c ((l ++ [(a, b)]).flatMap pF)) (hc : l.length + 1 = c) :
    W.cell? ⟨g, l.length * 2 + 1, none⟩ = some (.int .i64 (b : Int)) ∧ W.frozen? ⟨g, l.length * 2 + 1, none⟩ = false ∧
      (W.setCell ⟨g, l.length * 2 + 1, none⟩ (.int .i64 (k : Int))).ownsRow base 48 2 (.slice (some ⟨g, 0, none⟩) c cap) c ((l ++ [(a, k)]).flatMap pF) := by
  have hl : (l.flatMap pF).length = l.length * 2 := flat_len pF_len l
  have e : (l ++ [(a, b)]).flatMap pF = l.flatMap pF ++ pF (a, b) := by simp
  have e2 : (l ++ [(a, k)]).flatMap pF = l.flatMap pF ++ pF (a, k) := by simp
  rw [e] at h
  rw [e2]
  refine ⟨?_, h.frozenAt _, ?_⟩
  · rw [h.cellAt _ (by omega), List.getElem?_append_right (by omega), hl, show l.length * 2 + 1 - l.length * 2 = 1 by omega]; rfl
  · have := (h.stored (l.length * 2 + 1) (.int .i64 (k : Int))).1
    rwa [List.set_append_right _ _ (by omega), hl, show l.length * 2 + 1 - l.length * 2 = 1 by omega] at this
theorem new_pair (W : World) (a b : Int) (k : Nat) (hk : W.heap.size = k) : ∀ j u, [Value.int .i64 a, .int .i64 b][j]? = some u → (W.alloc (.cells #[.int .i64 a, .int .i64 b] 48)).cell? ((⟨k, 0, none⟩ : Addr).add j) = some u := by
  subst hk
  intro j u hj
  match j, hj with
  | 0, hj => simp at hj; subst hj; exact cells_at (heap_alloc_new W _) 0
  | 1, hj => simp at hj; subst hj; exact cells_at (heap_alloc_new W _) 1
  | j + 2, hj => simp at hj
def BlocksP (x : CoD) (w : World) (e : Ending) (w' : World) : Prop :=
  ∃ m v, e = .returned v ∧ Hid (∀ k, k < x.ins.length → (m k = true ↔ Way (nxE x) 0 k)) ∧ Hid (OwnP w' w.heap.size v (blkL m (begK x m x.ins.length) x.ins.length)) ∧ Hid (Below w.heap.size w w')
set_option maxRecDepth 100000 in
set_option maxHeartbeats 8000000 in
theorem blocks_f (x : CoD) (va fa ia : Option Addr) (vc fc ic : Nat) (w0 w : World) (hs : x.ins.length < 1000000) (hC : RowM 13 InAt w0 ia x.ins) (hold : Below w0.heap.size w0 w) :
    Calls Try.prog 22 #[.agg (CoV x va vc fa fc ia ic)] w (BlocksP x w) := by
  obtain ⟨i8t, hti8, hz08, hz18, hz28⟩ := info_parts info48
  have HX := hid (heap_alloc_new w (.cells (CoV x va vc fa fc ia ic) 30))
  have HB := hid (below1 w (.cells (CoV x va vc fa fc ia ic) 30))
  have hx := cells_at HX.out
  have HO1 := hid (hold.trans (HB.out.mono hold.size))
  have HRe := hid (fun W hb => reach_f x va fa ia vc fc ic w0 W hs hC hb)
  have HBe := hid (fun W Gr R hb hr => begins_f x va fa ia vc fc ic w0 W Gr R hs hC hb hr)
  have HS := hid hs
  have HO0 := hid hold
  clear hs hC hold
  go_enter Try.func22, Try.ntmps22
  go_wp2_with (first
    | (go_at_call 10; go_must (refine (HRe.out _ HO1.out).mono ?_); rintro e w2 ⟨Gr, m, rfl, hbl, hway, hGb⟩; have HB2 := hid (after HB.out hGb.out.2 HB.out.size); have HW := hway; have HR2 := hid hbl.out; have HX2 := hid (lay hGb.out.2 HX.out); have hx2 := cells_at HX2.out; have HO2 := hid (HO0.out.trans (HB2.out.mono HO0.out.size)); clear hx hbl hGb hway)
    | (go_at_call 35; go_must (refine (HBe.out w2 Gr m HO2.out HR2.out).mono ?_); rintro e w3 ⟨G, rfl, hbl, hG, hb3⟩; have HB3 := hid (after HB2.out hb3.out HB2.out.size); have HR3 := hid (HR2.out.later hb3.out); have HG3 := hid hbl.out; clear hx2 hbl hG hb3))
  obtain ⟨B, hB⟩ : ∃ B, begK x m x.ins.length = B := ⟨_, rfl⟩
  have HBe2 := hid hB
  rw [hB] at HG3
  have HW0 := hid (Below.refl w3.heap.size w3)
  have HR0 : Hid (w3.ownsRow w3.heap.size 48 2 (.slice none 0 0) (blkL m B 0).length ((blkL m B 0).flatMap pF)) := hid (World.ownsRow_nil _ _ _ _)
  clear hB HR2 HX2 HO2 HRe HBe
  go_loopg [5, 15] x.ins.length (fun gk v5 v15 wr => ∃ k : Nat, k ≤ x.ins.length ∧ gk = x.ins.length - k ∧ v15 = .int .i64 k ∧ Hid (Below w3.heap.size w3 wr) ∧ Hid (wr.ownsRow w3.heap.size 48 2 v5 (blkL m B k).length ((blkL m B k).flatMap pF)))
  case atStart => exact ⟨0, by omega, by omega, rfl, HW0, HR0⟩
  case round =>
    clear HW0 HR0
    obtain ⟨k, hk, rfl, rfl, HWr, HRr⟩ := hrel
    obtain ⟨A5, c5, rfl⟩ := own_slice HRr.out
    by_cases hlt : k < x.ins.length
    · have hlt' : (k : Int) < (x.ins.length : Int) := by omega
      have k0 : (0 : Int) ≤ (k : Int) := by omega
      have n9 : (x.ins.length : Int) ≤ 9223372036854775807 := by have := HS.out; omega
      have hcr := (HR3.out.later HWr.out).cell hlt
      have hcg := (HG3.out.later HWr.out).cell hlt
      have hlen := blk_len m B k
      have hk6 : k < 1000000 := by have := HS.out; omega
      obtain ⟨cnt, hcnt⟩ : ∃ c, (blkL m B k).length = c := ⟨_, rfl⟩
      have HCN := hid hcnt
      rw [hcnt] at hlen HRr ⊢
      clear hcnt
      cases hm : m k
      case false =>
        rw [hm] at hcr
        have HT : Hid (blkL m B (k + 1) = blkL m B k) := hid (by simp [blkL, hm])
        clear hm
        go_wp2
        go_roundg (x.ins.length - (k + 1))
        case measure => omega
        case rel => exact ⟨k + 1, by omega, rfl, rfl, HWr, hid (by rw [HT.out, HCN.out]; exact HRr.out)⟩
      case true =>
        rw [hm] at hcr
        cases hb : B k
        case true =>
          rw [hb] at hcg
          have HT : Hid (blkL m B (k + 1) = blkL m B k ++ [(k, k)]) := hid (by simp [blkL, hm, hb])
          clear hm hb
          go_wp2_with (at_builtin; go_must (refine wpList_append_own_at _ rfl _ _ 46 rfl w3.heap.size 48 i8t (.agg #[.int .i64 0, .int .i64 0]) 2 16 Try.underlying46 hti8 hz08 hz18 hz28 rfl (by decide) _ cnt ((blkL m B k).flatMap pF) rfl (HRr.out.alloc _) ⟨wr.heap.size, 0, none⟩ 1 1 [.int .i64 (k : Int), .int .i64 (k : Int)] rfl rfl (new_pair _ _ _ _ rfl) (by intro u hu; simp at hu; subst hu; rfl) (by unfold maxLen; omega) (by omega) (by have := HWr.out.size; simp; omega) ?_); intro v9 w9 hown9 hgrow9 hnil9 hblk9
                       have HO9 : Hid (w9.ownsRow w3.heap.size 48 2 v9 (blkL m B (k + 1)).length ((blkL m B (k + 1)).flatMap pF)) := hid (by rw [HT.out, List.length_append, HCN.out, List.flatMap_append]; simpa using hown9)
                       have HW9 := hid ((HWr.out.alloc HWr.out.size _).grown hgrow9 (by have := HWr.out.size; simp; omega) (fun g q => (row_lt HRr.out q).1))
                       clear hown9 hgrow9 hnil9 hblk9)
          go_roundg (x.ins.length - (k + 1))
          case measure => omega
          case rel => exact ⟨k + 1, by omega, rfl, rfl, HW9, HO9⟩
        case false =>
          rw [hb] at hcg
          have h0 : 0 < x.ins.length := by omega
          have hm0 : m 0 = true := (HW.out 0 h0).2 (.here 0)
          have hB0 : B 0 = true := by rw [← HBe2.out]; exact beg_first x m _ h0
          have hk0 : 0 < k := by
            by_cases e : k = 0
            · subst e; rw [hB0] at hb; cases hb
            · omega
          obtain ⟨l, a, b, hl⟩ := blk_some hm0 hB0 k hk0
          have hlc : l.length + 1 = cnt := by rw [← HCN.out, hl]; simp
          have HT : Hid (blkL m B (k + 1) = l ++ [(a, k)]) := hid (by simp [blkL, hm, hb, hl, setLast_app])
          have hrow := HRr.out
          rw [hl] at hrow
          have hA : ∃ g, A5 = some ⟨g, 0, none⟩ := by
            rcases hrow.2 with ⟨-, e⟩ | ⟨g, cap, cur, e, -⟩
            · omega
            · injection e with e; exact ⟨g, e⟩
          obtain ⟨g, rfl⟩ := hA
          have hp := pair_last (k := k) hrow hlc
          obtain ⟨q, hq⟩ : ∃ q, l.length = q := ⟨_, rfl⟩
          have HLQ := hid hq
          rw [hq] at hp hlc
          have hc1 := hp.1
          have hf1 := hp.2.1
          have HP := hid hp.2.2
          have HG := hid (row_lt hrow (g := g) rfl).1
          have hcq : cnt = q + 1 := by omega
          subst hcq
          have q0 : (0 : Int) ≤ (q : Int) := by omega
          clear hm hb hm0 hB0 hl hrow hp hq
          go_wp2
          go_roundg (x.ins.length - (k + 1))
          case measure => omega
          case rel => exact ⟨k + 1, by omega, rfl, rfl, hid (HWr.out.setCell (p := ⟨g, q * 2 + 1, none⟩) HG.out _), hid (by
            have h1 := HP.out
            have h2 : (blkL m B (k + 1)).length = q + 1 := by rw [HT.out]; have := HLQ.out; simp; omega
            rw [h2, HT.out]
            exact h1)⟩
    · have hlt' : ¬ (k : Int) < (x.ins.length : Int) := by omega
      have hkn : k = x.ins.length := by omega
      have HF : Hid (OwnP wr w.heap.size (.slice A5 (blkL m B k).length c5) (blkL m (begK x m x.ins.length) x.ins.length)) := hid (by
        rw [HBe2.out, ← hkn]
        exact row_low HRr.out HB3.out.size)
      clear hkn
      go_wp2
      go_ret
      exact ⟨m, _, rfl, HW, HF, hid (HB3.out.trans (HWr.out.mono HB3.out.size))⟩
end Go.Proofs.Ytbmjhkimeeahhaa
