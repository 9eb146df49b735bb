/- IrGrow, as a call: it returns true, and leaves what was as it was. Condition: strings no longer than the greatest length. -/
import Derived.Test.YtfhdiahjfnphkaaCR44
import Derived.Test.YtfhdiahjfnphkaaCR38
import Derived.Test.YtfhdiahjfnphkaaCR39
import Derived.Test.YtfhdiahjfnphkaaCR40
import Derived.Test.YtfhdiahjfnphkaaCR49
namespace Go.Proofs.Ytfhdiahjfnphkaa
open Go.RowKit Go.Maps
set_option linter.unusedVariables false
set_option linter.unusedSimpArgs false
theorem vars_addr {W : World} {va : Option Addr} {vs : List VaD} (h : RowM 3 VaAt W va vs) : ∀ ad, va = some ad → ∀ j u, (vs.flatMap vaF)[j]? = some u → W.cell? (ad.add j) = some u := by
  intro ad hv j u hu
  cases vs with
  | nil => simp at hu
  | cons x l =>
    obtain ⟨b, o, e, -, -⟩ := h.2 0 x rfl
    subst hv
    cases e
    exact vars_news h j u hu
theorem vars_none {W : World} {vs : List VaD} (h : RowM 3 VaAt W none vs) : vs = [] := by
  cases vs with
  | nil => rfl
  | cons x l => obtain ⟨b, o, e, -, -⟩ := h.2 0 x rfl; cases e
theorem owns_empty {W : World} {g base : Nat} (h : W.heap[g]? = some (.cells #[] 33 (0, 0))) (hb : base ≤ g) : W.ownsRow base 33 3 (.slice (some ⟨g, 0, none⟩) 0 0) 0 [] :=
  ⟨rfl, .inr ⟨g, 0, #[], rfl, hb, h, Nat.le_refl _, by unfold maxLen; omega, rfl, rfl⟩⟩
theorem grow_ne (c : CoD) : ¬ (growC c).vs = [] := by rw [grow_vs]; simp
theorem owns_form {W : World} {base n e size : Nat} {v : Value} {xs : List Value} (h : W.ownsRow base e size v n xs) : ∃ A c, v = .slice A n c := by
  rcases h.2 with ⟨rfl, rfl⟩ | ⟨g, cap, cur, rfl, -⟩
  · exact ⟨none, 0, rfl⟩
  · exact ⟨_, _, rfl⟩
/-- The new row of variables lies behind all that was. -/
theorem va_low {W : World} {c : CoD} {A : Option Addr} {M B : Nat} {R : Option Nat} (h : RowM 3 VaAt W A (growC c).vs) (hb : ∀ a, A = some a → B ≤ a.block ∨ (growC c).vs = []) (hM : M < B) (hR : ∀ g, R = some g → g < B) :
    ∀ a, A = some a → (M < a.block ∧ a.block < W.heap.size) ∧ some a.block ≠ R := by
  intro a ha
  have h1 : B ≤ a.block := by
    rcases hb a ha with h | h
    · exact h
    · exact absurd h (grow_ne c)
  obtain ⟨y, hy⟩ : ∃ y, (growC c).vs[0]? = some y := by
    cases hq : (growC c).vs with
    | nil => exact absurd hq (grow_ne c)
    | cons z l => exact ⟨_, rfl⟩
  obtain ⟨b, o, e, hlt, -⟩ := h.2 0 y hy
  rw [ha] at e
  cases e
  refine ⟨⟨by show M < b; have : B ≤ b := h1; omega, hlt⟩, fun e => ?_⟩
  have := hR b e.symm
  have : B ≤ b := h1
  omega
theorem va_ne {c : CoD} {A : Option Addr} {B C : Nat} (hb : ∀ a, A = some a → B ≤ a.block ∨ (growC c).vs = []) (hC : C < B) : ∀ a, A = some a → a.block = C → False := by
  intro a ha e
  rcases hb a ha with h | h
  · omega
  · exact absurd h (grow_ne c)
theorem va_set {W : World} {vs : List VaD} {A : Option Addr} {C i : Nat} {v : Value} (h : RowM 3 VaAt W A vs) (hC : ∀ a, A = some a → a.block = C → False) : RowM 3 VaAt (W.setCell ⟨C, i, none⟩ v) A vs := by
  cases A with
  | none => exact ⟨h.1, fun i y hy => by obtain ⟨_, _, q, -⟩ := h.2 i y hy; cases q⟩
  | some a =>
    cases vs with
    | nil => exact ⟨h.1, fun i y hy => by simp at hy⟩
    | cons x l =>
      obtain ⟨b, o, e, -, -⟩ := h.2 0 x rfl
      cases e
      exact row_kept h (by simp [World.setCell]) (va_kept (Below.heap_setCell _ _ _ _ (fun e => hC _ rfl e)))
theorem new_co {W : World} {k : Nat} {x : Array Value} (hk : W.heap.size = k) : ∀ j u, x.toList[j]? = some u → (W.alloc (.cells x 37)).cell? ((⟨k, 0, none⟩ : Addr).add j) = some u := by
  subst hk
  intro j u hu
  have h := cells_at (heap_alloc_new W (.cells x 37)) j
  unfold Addr.add
  split
  · rename_i hj; subst hj; rw [h, ← hu]; simp
  · rw [show (⟨W.heap.size, 0, none⟩ : Addr).block = W.heap.size from rfl]
    simp only [Nat.zero_add]
    rw [h, ← hu]
    simp
theorem one_co (c : CoD) (va : Option Addr) (vc : Nat) (fa : Option Addr) (fc : Nat) (ia : Option Addr) (ic : Nat) : ∀ u ∈ (CoV c va vc fa fc ia ic).toList, u.oneCell' = true := by
  intro u hu
  simp only [CoV, List.mem_cons, List.not_mem_nil, or_false] at hu
  rcases hu with rfl | rfl | rfl | rfl | rfl | rfl | rfl | rfl <;> rfl
theorem GS.box {w : World} {ss : List StD} {cs : List CoD} {sa ca : Option Addr} {sc cc M k : Nat} {v : Value} {l : List (Array Value)} {W W' : World} {o : Obj} (h : GS w ss cs sa ca sc cc M k v l W) (hg : (W.alloc o).grownBy W' v.ownBlock) : W'.heap[M]? = some (.cells #[.slice sa ss.length sc, v] 25 (0, 0)) := by
  have hMs := (Array.getElem?_eq_some_iff.1 h.n1).1
  exact ((hg.block M (by simp; omega) (fun e => by have := (row_lt h.row e.symm).1; omega)).trans (Below.heap_alloc W o M hMs)).trans h.n1
theorem row_cast {W : World} {base n n' e size : Nat} {v : Value} {xs xs' : List Value} (hn : n' = n) (hx : xs' = xs) (h : W.ownsRow base e size v n' xs') : W.ownsRow base e size v n xs := by
  subst hn; subst hx; exact h
theorem add_keep {w W : World} {ad : Addr} {j : Nat} {u : Value} (hb : Below w.heap.size w W) (h : w.cell? (ad.add j) = some u) : W.cell? (ad.add j) = some u :=
  (hb.cell (World.block_lt_of_cell? w _ h)).trans h
theorem new_va (W : World) (t : TypeId) : ∀ j u, (vaF v0D)[j]? = some u → (W.alloc (.cells #[.bool false, .string ⟨#[]⟩, .int .i64 0] t)).cell? ((⟨W.heap.size, 0, none⟩ : Addr).add j) = some u := by
  intro j u hu
  have h := cells_at (heap_alloc_new W (.cells #[.bool false, .string ⟨#[]⟩, .int .i64 0] t)) j
  unfold Addr.add
  split
  · rename_i hj; subst hj; rw [h, ← hu]; rfl
  · rw [show (⟨W.heap.size, 0, none⟩ : Addr).block = W.heap.size from rfl]
    simp only [Nat.zero_add]
    rw [h, ← hu]
    simp [vaF]
theorem run_append_none {w : World} {ty : TypeId} {i : TypeInfo} (hi : Try.prog.info? 33 = some i) (hs : i.size = 3) (g m c : Nat) (hm : m = 0) :
    (Builtin.append_ #[29, 29] ty #[.slice (some ⟨g, 0, none⟩) 0 0, .slice none m c]).run Try.prog w = .ok (.slice (some ⟨g, 0, none⟩) 0 0) w := by
  subst hm
  have ht := Try.underlying29
  simp [Builtin.append_, run_underlying ht, sizeOf, typeInfo, hi, Builtin.lenOf, Builtin.firstCells, loadCells, loadCellsFrom, storeCells]
theorem wpList_append_none {w : World} {ops : Array Oper} {rest : List Oper} {o : Oper} {a : Act} {Q : Exit → Act → World → Prop} (hgd : o.guard = none) (s x : Operand)
    (ho : o.op = .call { callee := .builtin .append, args := #[s, x], argTypes := #[29, 29] }) {i : TypeInfo} (hi : Try.prog.info? 33 = some i) (hsz : i.size = 3) (g m c : Nat) (hm : m = 0)
    (hs : a.eval s = .slice (some ⟨g, 0, none⟩) 0 0) (hx : a.eval x = .slice none m c) (h : wpList Try.prog ops Q rest (a.put o.dst (.slice (some ⟨g, 0, none⟩) 0 0)) w) :
    wpList Try.prog ops Q (o :: rest) a w := by
  refine wpList_plain hgd fun K hK => ?_
  have hr := run_append_none (w := w) (ty := o.type) hi hsz g m c hm
  unfold Oper.wp execOp
  simp only [ho, resolve, invoke, builtin, Sem.run_bind, Sem.run_pure, Result.andThen_ok, List.map_toArray, List.map_cons, List.map_nil, hs, hx, hr]
  exact hK _ _ h
theorem new_va1 (W : World) (o : Obj) (t : TypeId) : ∀ j u, (vaF v0D)[j]? = some u → ((W.alloc o).alloc (.cells #[.bool false, .string ⟨#[]⟩, .int .i64 0] t)).cell? ((⟨W.heap.size + 1, 0, none⟩ : Addr).add j) = some u := by
  have h := new_va (W.alloc o) t
  rwa [World.size_alloc] at h
set_option maxRecDepth 100000 in
set_option maxHeartbeats 16000000 in
theorem grow_law (ss : List StD) (cs : List CoD) (sa ca : Option Addr) (sc cc : Nat) (w : World) (h1 : RowM 4 StAt w sa ss) (h2 : RowM 8 CoAt w ca cs) (hok : OkM ss cs) :
    Calls Try.prog 5 #[.agg #[.slice sa ss.length sc, .slice ca cs.length cc]] w fun e w' => e = .returned (.bool true) ∧ Hid (Below w.heap.size w w') := by
  have hl2 := h2.1
  obtain ⟨Z, hZ⟩ : ∃ Z, rightF ss cs = Z := ⟨_, rfl⟩
  have HL := hid (fun W (hb : Below w.heap.size w W) => light_r ss cs sa ca sc cc W (h1.later st_stays hb) (h2.later co_stays hb))
  have HR := hid (fun W (hb : Below w.heap.size w W) => right_g ss cs sa ca sc cc W (h1.later st_stays hb) (h2.later co_stays hb) hok)
  rw [hZ] at HR
  have HZ := hid hZ
  have H1 := hid h1
  have H2 := hid h2
  have HOk := hid hok
  have HB0 := hid (below1 w (.cells #[.slice sa ss.length sc, .slice ca cs.length cc] 25))
  have HX0 := hid (heap_alloc_new w (.cells #[.slice sa ss.length sc, .slice ca cs.length cc] 25))
  clear h1 h2 hok hZ
  by_cases z0 : Z = 0
  case neg =>
    have z0' : (Z != 0) = true := by simpa using z0
    go_enter Try.func5, Try.ntmps5
    go_wp2_with (first
      | (go_at_call 6; refine (HL.out _ HB0.out).mono ?_; rintro e w1 ⟨⟨l, rfl, -⟩, hb1⟩; have HT1 := hid (after HB0.out hb1.out HB0.out.size); have hx1 := cells_at (lay hb1.out HX0.out); clear hb1; cases l)
      | (go_at_call 16; refine (HR.out _ HT1.out).mono ?_; rintro e w2 ⟨rfl, hb2⟩; have HT2 := hid (after HT1.out hb2.out HT1.out.size); clear hb2)
      | (go_at_call 7; have HTp := HT2; refine (alive_i _).mono ?_; rintro e w3 ⟨rfl, hb3⟩; have HT3 := hid (after HTp.out hb3.out HTp.out.size); clear hb3)
      | (go_at_call 7; have HTp := HT1; refine (alive_i _).mono ?_; rintro e w3 ⟨rfl, hb3⟩; have HT3 := hid (after HTp.out hb3.out HTp.out.size); clear hb3))
    all_goals go_ret
    all_goals exact ⟨rfl, HT3⟩
  case pos =>
    subst z0
    have HRS := hid (right_sizes HZ.out)
    go_enter Try.func5, Try.ntmps5
    go_wp2_with (first
      | (go_at_call 6; refine (HL.out _ HB0.out).mono ?_; rintro e w1 ⟨⟨l, rfl, -⟩, hb1⟩; have HT1 := hid (after HB0.out hb1.out HB0.out.size); have HX1 := hid (lay hb1.out HX0.out); have hx1 := cells_at HX1.out; clear hb1; cases l)
      | (go_at_call 16; refine (HR.out _ HT1.out).mono ?_; rintro e w2 ⟨rfl, hb2⟩; have HT2 := hid (after HT1.out hb2.out HT1.out.size); have HX2 := hid (lay hb2.out HX1.out); have hx2 := cells_at HX2.out; clear hb2)
      | (go_at_call 7; have HTp := HT1; refine (alive_i _).mono ?_; rintro e w3 ⟨rfl, hb3⟩; have HT3 := hid (after HTp.out hb3.out HTp.out.size); clear hb3))
    · go_ret
      exact ⟨rfl, HT3⟩
    have HNlt := hid (show w.heap.size < w2.heap.size from by have := HT2.out.size; have := (Array.getElem?_eq_some_iff.1 HX2.out).1; omega)
    have HG0 : Hid (GS w ss cs sa ca sc cc w2.heap.size 0 (.slice none 0 0) [] (w2.alloc (.cells #[.slice sa ss.length sc, .slice none 0 0] 25))) := hid
      ⟨after HT2.out (below1 _ _) HT2.out.size, HNlt.out, lay (below1 _ _) HX2.out, heap_alloc_new _ _, World.ownsRow_nil _ _ _ _, ⟨rfl, fun i c x h => by simp at h⟩, fun c h => by simp at h⟩
    obtain ⟨W3, hW3⟩ : ∃ W3, w2.alloc (.cells #[.slice sa ss.length sc, .slice none 0 0] 25) = W3 := ⟨_, rfl⟩
    obtain ⟨M, hM⟩ : ∃ M, w2.heap.size = M := ⟨_, rfl⟩
    rw [hW3, hM] at HG0
    rw [hW3, hM]
    clear hW3 hM hx1 hx2 HNlt HX2 HX1
    go_loopg [4] cs.length (fun gk v4 wr => ∃ (k : Nat) (l : List (Array Value)) (A : Option Addr) (cp : Nat), k ≤ cs.length ∧ gk = cs.length - k ∧ v4 = .int .i64 k ∧ Hid (GS w ss cs sa ca sc cc M k (.slice A k cp) l wr))
    case atStart => exact ⟨0, [], none, 0, by omega, by omega, rfl, HG0⟩
    case round =>
      clear HG0
      obtain ⟨k, l, A, cp, hk, rfl, rfl, HG⟩ := hrel
      have hm := cells_at HG.out.t1
      by_cases hlt : k < cs.length
      · have hlt' : (k : Int) < (cs.length : Int) := by omega
        have k0 : (0 : Int) ≤ (k : Int) := by omega
        obtain ⟨c, hcx⟩ : ∃ c, cs[k]? = some c := ⟨_, List.getElem?_eq_getElem hlt⟩
        obtain ⟨bc, oc, rfl, hbc, va, vc, fa, fc, ia, ic, hcc, hcm⟩ := H2.out.2 k c hcx
        have d0 : wr.cell? ⟨bc, oc + k * 8, none⟩ = some (.string c.nm) := cell_keep HG.out.below hbc (hcc 0 _ rfl)
        have d1 : wr.cell? ⟨bc, oc + k * 8 + 1, none⟩ = some (.int .i64 c.pr) := cell_keep HG.out.below hbc (hcc 1 _ rfl)
        have d2 : wr.cell? ⟨bc, oc + k * 8 + 2, none⟩ = some (.slice va c.vs.length vc) := cell_keep HG.out.below hbc (hcc 2 _ rfl)
        have d3 : wr.cell? ⟨bc, oc + k * 8 + 3, none⟩ = some (.bool c.rt.t.p) := cell_keep HG.out.below hbc (hcc 3 _ rfl)
        have d4 : wr.cell? ⟨bc, oc + k * 8 + 4, none⟩ = some (.string c.rt.t.name) := cell_keep HG.out.below hbc (hcc 4 _ rfl)
        have d5 : wr.cell? ⟨bc, oc + k * 8 + 5, none⟩ = some (.int .i64 c.rt.cls) := cell_keep HG.out.below hbc (hcc 5 _ rfl)
        have d6 : wr.cell? ⟨bc, oc + k * 8 + 6, none⟩ = some (.slice fa c.fr.length fc) := cell_keep HG.out.below hbc (hcc 6 _ rfl)
        have d7 : wr.cell? ⟨bc, oc + k * 8 + 7, none⟩ = some (.slice ia c.ins.length ic) := cell_keep HG.out.below hbc (hcc 7 _ rfl)
        have HCI := hid hcx
        have HCM := hid hcm
        have HC0 := hid (heap_alloc_new wr (.cells (CoV c va vc fa fc ia ic) 37))
        have HBw0 := hid (below1 wr (.cells (CoV c va vc fa fc ia ic) 37))
        have HX0 := hid (lay HBw0.out HG.out.t1)
        have vl : (c.vs.length : Int) ≤ 9223372036854775807 := by have := hcm.vs.1; omega
        have hcb := fun i => cells_at HC0.out i
        have hmb := cells_at HX0.out
        clear hcx hcc hcm hbc
        by_cases g3 : (300 : Int) ≤ (c.vs.length : Int)
        · go_wp2_with (first
            | (go_at_call 7; refine (alive_i _).mono ?_; rintro e w5 ⟨rfl, hb5⟩; have HT5 := hid (after HG.out.below (after HBw0.out hb5.out HBw0.out.size) HG.out.below.size); clear hb5))
          go_ret
          exact ⟨rfl, HT5⟩
        · have hlen : c.vs.length < 300 := by omega
          have HF := hid (func_co (.slice sa ss.length sc) cs (some ⟨bc, oc, none⟩) cc c.nm (wr.alloc (.cells (CoV c va vc fa fc ia ic) 37)) (H2.out.later co_stays (after HG.out.below HBw0.out HG.out.below.size)) ⟨_, _, _, rfl⟩)
          rw [idx_self HRS.out.2.1 HCI.out] at HF
          have HBw := HBw0
          obtain ⟨C, hC⟩ : ∃ C, wr.heap.size = C := ⟨_, rfl⟩
          have HCw := hid hC
          obtain ⟨i0t, hti, hz0, hz1, hz2⟩ := info_parts info33
          obtain ⟨i1t, hsi, hy0, hy1, hy2⟩ := info_parts info37
          have G1 : True := trivial
          have G2 : True := trivial
          rw [hC] at HC0 hcb
          have hcb2 := hcb
          have HRB := hid (fun g (hg : Value.ownBlock (.slice A k cp) = some g) => (row_lt HG.out.row hg).2)
          have HNW := hid (vars_addr (HCM.out.vs))
          have HVS := hid HCM.out.vs
          have k60 : k < 60 := by have := HRS.out.1; omega
          have G3 : True := trivial
          rcases va with - | ad
          case none =>
            have hv0 : c.vs = [] := vars_none HVS.out
            have HV0 := hid hv0
            have HV1 := hid (show c.vs.length = 0 by rw [hv0]; rfl)
            clear hv0
            go_wp2_with (first
              | (go_at_call 12; refine HF.out.mono ?_; rintro e w5 ⟨rfl, hb5⟩; have HB5 := hid (after HBw0.out hb5.out HBw0.out.size); have HC5 := hid (lay hb5.out HC0.out); have hc5 := cells_at HC5.out; have hc5a := fun o => cells_at1 HC5.out o; have HG5 := hid (HG.out.later HB5.out); have hm5 := cells_at HG5.out.t1; clear hb5)
              | (at_builtin; have hh := G1; clear G1; go_must (refine wpList_append_none rfl _ _ rfl hti hz1 w5.heap.size c.vs.length vc HV1.out rfl rfl ?_))
              | (at_builtin; have hh := G2; clear G2; go_must (refine wpList_append_own_at _ rfl _ _ 29 rfl w5.heap.size 33 i0t (.agg #[.bool false, .string ⟨#[]⟩, .int .i64 0]) 3 32 Try.underlying29 hti hz0 hz1 hz2 rfl (by decide) _ 0 [] rfl ((owns_empty (heap_alloc_new w5 (.cells #[] 33)) (Nat.le_refl _)).alloc _) ⟨w5.heap.size + 1, 0, none⟩ 1 1 (vaF v0D) rfl rfl (new_va1 _ _ _) (by intro u hu; simp at hu; rcases hu with rfl | rfl | rfl <;> rfl) (by unfold maxLen; omega) (by omega) (by simp; omega) ?_); intro v2 w7 hown2 hgrow2 hnil2 hblk2
                 have HB7 := hid (((HB5.out.alloc HB5.out.size (.cells #[] 33)).alloc (HB5.out.alloc HB5.out.size (.cells #[] 33)).size (.cells #[.bool false, .string ⟨#[]⟩, .int .i64 0] 33)).grown hgrow2 ((HB5.out.alloc HB5.out.size (.cells #[] 33)).alloc (HB5.out.alloc HB5.out.size (.cells #[] 33)).size (.cells #[.bool false, .string ⟨#[]⟩, .int .i64 0] 33)).size (by rintro g e; cases e; exact HB5.out.size))
                 have HC7 := hid (keep_box (old_block (below2 _ _ _) (Array.getElem?_eq_some_iff.1 HC5.out).1 HC5.out) hgrow2 (by rintro g e; cases e; have := (Array.getElem?_eq_some_iff.1 HC5.out).1; show C + 1 ≤ w5.heap.size; omega))
                 obtain ⟨A2, c2, rfl, hA2, hA2b⟩ := vars_owns (vs := (growC c).vs) (row_cast (n := 0 + 1) (n' := 0 + 1) (xs := (growC c).vs.flatMap vaF) rfl (by rw [grow_vs, HV0.out]; simp) hown2) (by rw [grow_vs, HV0.out]; rfl) (by rw [grow_vs, HV0.out]; simp)
                 have HA2 := hid hA2
                 have HA2b := hid hA2b
                 have hz7 := frozen_no HC7.out 2
                 have hc7 := cells_at HC7.out
                 have HB8 : Hid (Below wr.heap.size wr (w7.setCell ⟨C, 2, none⟩ (.slice A2 (growC c).vs.length c2))) := hid (HB7.out.setCell (by show wr.heap.size ≤ C; exact Nat.le_of_eq HCw.out) _)
                 have HC8 : Hid ((w7.setCell ⟨C, 2, none⟩ (.slice A2 (growC c).vs.length c2)).heap[C]? = some (.cells (CoV (growC c) A2 c2 fa fc ia ic) 37 (0, 0))) := hid (set_here HC7.out 2 _)
                 have HG8 := hid (HG.out.later HB8.out)
                 have HVA := hid (va_low (M := M) (R := Value.ownBlock (.slice A k cp)) HA2.out HA2b.out (by have := (Array.getElem?_eq_some_iff.1 HG.out.n1).1; have := HB5.out.size; omega) (fun g hg => by have := HRB.out g hg; have := HB5.out.size; omega))
                 have HA8 := hid (va_set (i := 2) (v := .slice A2 (growC c).vs.length c2) HA2.out (va_ne HA2b.out (Array.getElem?_eq_some_iff.1 HC5.out).1))
                 have hm8 := cells_at HG8.out.n1
                 have hc8 := cells_at HC8.out
                 clear hown2 hgrow2 hnil2 hblk2 hA2 hA2b)
              | (at_builtin; have hh := G3; clear G3; go_must (refine wpList_append_own_at _ rfl _ _ 23 rfl (M + 1) 37 i1t (.agg #[.string ⟨#[]⟩, .int .i64 0, .slice none 0 0, .bool false, .string ⟨#[]⟩, .int .i64 0, .slice none 0 0, .slice none 0 0]) 8 128 Try.underlying23 hsi hy0 hy1 hy2 rfl (by decide) _ k (l.flatMap (·.toList)) rfl (HG8.out.row.alloc _) ⟨w7.heap.size, 0, none⟩ 1 1 (CoV (growC c) A2 c2 fa fc ia ic).toList rfl rfl (new_co (by simp [World.setCell])) (one_co _ _ _ _ _ _ _) (by unfold maxLen; omega) (by omega) (by have := (Array.getElem?_eq_some_iff.1 HG8.out.n1).1; simp [World.setCell] at this ⊢; omega) ?_); intro v3 w9 hown3 hgrow3 hnil3 hblk3
                 obtain ⟨A3, c3, rfl⟩ := owns_form hown3
                 have HG9 := hid (HG8.out.push HCI.out hlen hown3 hgrow3 hblk3 HA8.out (fun a ha => ⟨⟨(HVA.out a ha).1.1, by have := (HVA.out a ha).1.2; simpa [World.setCell] using this⟩, (HVA.out a ha).2⟩) HCM.out.fr HCM.out.ins)
                 have HM9 := hid (HG8.out.box hgrow3)
                 have hz9 := frozen_no HM9.out 1
                 have hm9 := cells_at HM9.out
                 clear hown3 hgrow3 hnil3 hblk3))
            go_roundg (cs.length - (k + 1))
            case measure => omega
            case rel => exact ⟨k + 1, _, A3, c3, by omega, rfl, rfl, HG9⟩
          case some =>
            go_wp2_with (first
              | (go_at_call 12; refine HF.out.mono ?_; rintro e w5 ⟨rfl, hb5⟩; have HB5 := hid (after HBw0.out hb5.out HBw0.out.size); have HC5 := hid (lay hb5.out HC0.out); have hc5 := cells_at HC5.out; have hc5a := fun o => cells_at1 HC5.out o; have HG5 := hid (HG.out.later HB5.out); have hm5 := cells_at HG5.out.t1; clear hb5)
              | (at_builtin; have hh := G1; clear G1; go_must (refine wpList_append_own_at _ rfl _ _ 29 rfl w5.heap.size 33 i0t (.agg #[.bool false, .string ⟨#[]⟩, .int .i64 0]) 3 32 Try.underlying29 hti hz0 hz1 hz2 rfl (by decide) _ 0 [] rfl (owns_empty (heap_alloc_new _ _) (Nat.le_refl _)) ad c.vs.length vc (c.vs.flatMap vaF) rfl (flat_len vaF_len c.vs) (fun j u hu => (add_keep (after (after HG.out.below HB5.out HG.out.below.size) (below1 _ _) (after HG.out.below HB5.out HG.out.below.size).size) (HNW.out ad rfl j u hu))) (vars_one _) (by unfold maxLen; omega) (by omega) (by simp) ?_); intro v1 w6 hown1 hgrow1 hnil1 hblk1
                 have HO1 := hid (row_cast (n := c.vs.length) (n' := 0 + c.vs.length) (xs := c.vs.flatMap vaF) (by omega) (by simp) hown1)
                 have HB6 := hid ((HB5.out.alloc HB5.out.size (.cells #[] 33)).grown hgrow1 (HB5.out.alloc HB5.out.size (.cells #[] 33)).size (by rintro g e; cases e; exact HB5.out.size))
                 have HC6 := hid (keep_box (old_block (below1 _ _) (Array.getElem?_eq_some_iff.1 HC5.out).1 HC5.out) hgrow1 (by rintro g e; cases e; have := (Array.getElem?_eq_some_iff.1 HC5.out).1; show C + 1 ≤ w5.heap.size; omega))
                 have hc6 := cells_at HC6.out
                 have hc6a := fun o => cells_at1 HC6.out o
                 have HW65 := hid (show w5.heap.size ≤ w6.heap.size from by have := hgrow1.size; simp at this; omega)
                 clear hown1 hgrow1 hnil1 hblk1)
              | (at_builtin; have hh := G2; clear G2; go_must (refine wpList_append_own_at _ rfl _ _ 29 rfl w5.heap.size 33 i0t (.agg #[.bool false, .string ⟨#[]⟩, .int .i64 0]) 3 32 Try.underlying29 hti hz0 hz1 hz2 rfl (by decide) v1 c.vs.length _ rfl (HO1.out.alloc _) ⟨w6.heap.size, 0, none⟩ 1 1 (vaF v0D) rfl rfl (new_va _ _) (by intro u hu; simp at hu; rcases hu with rfl | rfl | rfl <;> rfl) (by unfold maxLen; omega) (by omega) (by have := HW65.out; simp; omega) ?_); intro v2 w7 hown2 hgrow2 hnil2 hblk2
                 have HB7 := hid ((HB6.out.alloc HB6.out.size (.cells #[.bool false, .string ⟨#[]⟩, .int .i64 0] 33)).grown hgrow2 (HB6.out.alloc HB6.out.size (.cells #[.bool false, .string ⟨#[]⟩, .int .i64 0] 33)).size (fun g e => by have := (row_lt HO1.out e).1; have := HB5.out.size; omega))
                 have HC7 := hid (keep_box (old_block (below1 _ _) (Array.getElem?_eq_some_iff.1 HC6.out).1 HC6.out) hgrow2 (fun g e => by have := (row_lt HO1.out e).1; have := (Array.getElem?_eq_some_iff.1 HC5.out).1; omega))
                 obtain ⟨A2, c2, rfl, hA2, hA2b⟩ := vars_owns (vs := (growC c).vs) (row_cast (n := c.vs.length + 1) (n' := c.vs.length + 1) (xs := (growC c).vs.flatMap vaF) rfl (by rw [grow_vs, List.flatMap_append]; simp) hown2) (by rw [grow_vs, List.length_append]; rfl) (by rw [grow_vs, List.length_append]; simp; omega)
                 have HA2 := hid hA2
                 have HA2b := hid hA2b
                 have hz7 := frozen_no HC7.out 2
                 have hc7 := cells_at HC7.out
                 have HB8 : Hid (Below wr.heap.size wr (w7.setCell ⟨C, 2, none⟩ (.slice A2 (growC c).vs.length c2))) := hid (HB7.out.setCell (by show wr.heap.size ≤ C; exact Nat.le_of_eq HCw.out) _)
                 have HC8 : Hid ((w7.setCell ⟨C, 2, none⟩ (.slice A2 (growC c).vs.length c2)).heap[C]? = some (.cells (CoV (growC c) A2 c2 fa fc ia ic) 37 (0, 0))) := hid (set_here HC7.out 2 _)
                 have HG8 := hid (HG.out.later HB8.out)
                 have HVA := hid (va_low (M := M) (R := Value.ownBlock (.slice A k cp)) HA2.out HA2b.out (by have := (Array.getElem?_eq_some_iff.1 HG.out.n1).1; have := HB5.out.size; omega) (fun g hg => by have := HRB.out g hg; have := HB5.out.size; omega))
                 have HA8 := hid (va_set (i := 2) (v := .slice A2 (growC c).vs.length c2) HA2.out (va_ne HA2b.out (Array.getElem?_eq_some_iff.1 HC5.out).1))
                 have hm8 := cells_at HG8.out.n1
                 have hc8 := cells_at HC8.out
                 clear hown2 hgrow2 hnil2 hblk2 hA2 hA2b)
              | (at_builtin; have hh := G3; clear G3; go_must (refine wpList_append_own_at _ rfl _ _ 23 rfl (M + 1) 37 i1t (.agg #[.string ⟨#[]⟩, .int .i64 0, .slice none 0 0, .bool false, .string ⟨#[]⟩, .int .i64 0, .slice none 0 0, .slice none 0 0]) 8 128 Try.underlying23 hsi hy0 hy1 hy2 rfl (by decide) _ k (l.flatMap (·.toList)) rfl (HG8.out.row.alloc _) ⟨w7.heap.size, 0, none⟩ 1 1 (CoV (growC c) A2 c2 fa fc ia ic).toList rfl rfl (new_co (by simp [World.setCell])) (one_co _ _ _ _ _ _ _) (by unfold maxLen; omega) (by omega) (by have := (Array.getElem?_eq_some_iff.1 HG8.out.n1).1; simp [World.setCell] at this ⊢; omega) ?_); intro v3 w9 hown3 hgrow3 hnil3 hblk3
                 obtain ⟨A3, c3, rfl⟩ := owns_form hown3
                 have HG9 := hid (HG8.out.push HCI.out hlen hown3 hgrow3 hblk3 HA8.out (fun a ha => ⟨⟨(HVA.out a ha).1.1, by have := (HVA.out a ha).1.2; simpa [World.setCell] using this⟩, (HVA.out a ha).2⟩) HCM.out.fr HCM.out.ins)
                 have HM9 := hid (HG8.out.box hgrow3)
                 have hz9 := frozen_no HM9.out 1
                 have hm9 := cells_at HM9.out
                 clear hown3 hgrow3 hnil3 hblk3))
            go_roundg (cs.length - (k + 1))
            case measure => omega
            case rel => exact ⟨k + 1, _, A3, c3, by omega, rfl, rfl, HG9⟩
      · have hlt' : ¬ (k : Int) < (cs.length : Int) := by omega
        obtain rfl : k = cs.length := by omega
        have hn := cells_at HG.out.n1
        have HGL : Hid (GL w wr M (Value.ownBlock (.slice A cs.length cp)) cs l) := hid (by have := HG.out.gl; rwa [List.take_length] at this)
        have HFEW : Hid (∀ c ∈ cs, c.vs.length < 300) := hid (by have := HG.out.few; rwa [List.take_length] at this)
        obtain ⟨A', cp', hv, hrows⟩ := funcs_owns HG.out.row rfl hl2 HGL.out HG.out.below
        have hgl : (growL cs).length = cs.length := by rw [growL, List.length_map]
        rw [hgl] at hv
        cases hv
        have HRG := hid (fun W (hb : Below wr.heap.size wr W) => by
          have h := right_g ss (growL cs) sa A sc cp W ((H1.out.later st_stays HG.out.below).later st_stays hb) (hrows.later co_stays hb) (ok_grow HOk.out)
          rw [right_grow HZ.out HFEW.out, hgl] at h
          exact h)
        have HSM := hid (fun W (hb : Below wr.heap.size wr W) => by
          have h := same_i ss ss cs (growL cs) sa sa ca A sc sc cc cp false W ((H1.out.later st_stays HG.out.below).later st_stays hb) ((H1.out.later st_stays HG.out.below).later st_stays hb) ((H2.out.later co_stays HG.out.below).later co_stays hb) (hrows.later co_stays hb) (same_grow (right_some HZ.out))
          rw [hgl] at h
          exact h)
        clear hrows hgl
        go_wp2_with (first
          | (go_at_call 16; refine (HRG.out _ (Below.refl _ _)).mono ?_; rintro e w5 ⟨rfl, hb5⟩; have HB5 := hid hb5.out; have hm5 := cells_at (lay hb5.out HG.out.t1); have hn5 := cells_at (lay hb5.out HG.out.n1); clear hb5)
          | (go_at_call 10; refine (HSM.out _ HB5.out).mono ?_; rintro e w6 ⟨rfl, hb6⟩; have HB6 := hid (after HB5.out hb6.out HB5.out.size); clear hb6)
          | (go_at_call 7; refine (alive_i _).mono ?_; rintro e w7 ⟨rfl, hb7⟩; have HB7 := hid (after HB6.out hb7.out HB6.out.size); clear hb7))
        go_ret
        exact ⟨rfl, hid (after HG.out.below HB7.out HG.out.below.size)⟩
end Go.Proofs.Ytfhdiahjfnphkaa
