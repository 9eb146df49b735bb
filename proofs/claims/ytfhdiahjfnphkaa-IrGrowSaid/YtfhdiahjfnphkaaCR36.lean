/- Right, of the chapter's example and of the empty module. No conditions. -/
import Derived.Test.YtfhdiahjfnphkaaCR09
namespace Go.Proofs.Ytfhdiahjfnphkaa
open Go.RowKit Go.Maps Go.Shelf
set_option linter.unusedVariables false
set_option linter.unusedSimpArgs false
attribute [local go_sem] Oper.semAt_some
abbrev jobjM (sl : Value) (B : Nat) : Array Value := #[n0, sl, .map (some B), s0, i0, n0, .bool false, s0, i0, n0, n0]
structure RS (n : Nat) (sl : Value) (B : Nat) (W : World) : Prop where
  t1 : W.heap[n]? = some (.cells #[n0, sl] 25 (0, 0))
  t2 : W.heap[n + 1]? = some (.cells #[i0] 41 (0, 0))
  j : W.heap[B + 1]? = some (.cells (jobjM sl B) 70 (0, 0))
  p : W.heap[B + 2]? = some (.cells #[.pointer (some ⟨B + 1, 0, none⟩)] 67 (0, 0))
  m : W.ownsMap Try.prog 9 (plainElem (H := Unit) Try.prog 3) B 0 (.map [])
theorem RS.step {n : Nat} {sl : Value} {B : Nat} {W W' : World} (h : RS n sl B W) (hn : n + 1 < B) (hk : ∀ k, k < B + 3 → W'.heap[k]? = W.heap[k]?) : RS n sl B W' := by
  refine ⟨(hk _ (by omega)).trans h.t1, (hk _ (by omega)).trans h.t2, (hk _ (by omega)).trans h.j, (hk _ (by omega)).trans h.p, ?_⟩
  obtain ⟨es, clock, h1, h2⟩ := h.m
  exact ⟨es, clock, (hk _ (by omega)).trans h1, h2⟩
theorem RS.size {n : Nat} {sl : Value} {B : Nat} {W : World} (h : RS n sl B W) : B + 3 ≤ W.heap.size := (Array.getElem?_eq_some_iff.1 h.p).1
theorem RS.below {n : Nat} {sl : Value} {B : Nat} {W W' : World} (h : RS n sl B W) (hn : n + 1 < B) (hb : Below W.heap.size W W') : RS n sl B W' :=
  h.step hn (fun k hk => hb.block k (by have := h.size; omega))
theorem RS.own (n : Nat) (sl : Value) (B N : Nat) (hn : n + 1 < B) (hN : B + 3 ≤ N) : OwnFrom N (fun (_ : List Unit) W => RS n sl B W) :=
  fun _ W W' row hs hg hr => hs.step hn (fun k hk => hg.block k (by have := hs.size; omega) (fun e => by have := (hr k e.symm).1; omega))
theorem RS.start (n : Nat) (sl : Value) (W : World) (h1 : W.heap[n]? = some (.cells #[n0, sl] 25 (0, 0))) (h2 : W.heap[n + 1]? = some (.cells #[i0] 41 (0, 0))) :
    RS n sl W.heap.size (((W.alloc (.map #[] 0)).alloc (.cells (jobjM sl W.heap.size) 70)).alloc (.cells #[.pointer (some ⟨W.heap.size + 1, 0, none⟩)] 67)) := by
  have a1 := (Array.getElem?_eq_some_iff.1 h1).1
  have a2 := (Array.getElem?_eq_some_iff.1 h2).1
  obtain ⟨X, hX⟩ : ∃ X, W.alloc (.map #[] 0) = X := ⟨_, rfl⟩
  have sX : X.heap.size = W.heap.size + 1 := by rw [← hX]; simp
  have oX : ∀ k, k < W.heap.size → X.heap[k]? = W.heap[k]? := fun k hk => by rw [← hX]; exact Below.heap_alloc _ _ _ hk
  have mX := World.ownsMap_made W Try.prog 9 (plainElem (H := Unit) Try.prog 3)
  rw [hX] at mX ⊢
  obtain ⟨Y, hY⟩ : ∃ Y, X.alloc (.cells (jobjM sl W.heap.size) 70) = Y := ⟨_, rfl⟩
  have sY : Y.heap.size = W.heap.size + 2 := by rw [← hY]; simp [sX]
  have oY : ∀ k, k < W.heap.size + 1 → Y.heap[k]? = X.heap[k]? := fun k hk => by rw [← hY]; exact Below.heap_alloc _ _ _ (by omega)
  have nY : Y.heap[W.heap.size + 1]? = some (.cells (jobjM sl W.heap.size) 70 (0, 0)) := by rw [← hY, ← sX]; exact heap_alloc_new _ _
  rw [hY]
  obtain ⟨Z, hZ⟩ : ∃ Z, Y.alloc (.cells #[.pointer (some ⟨W.heap.size + 1, 0, none⟩)] 67) = Z := ⟨_, rfl⟩
  have oZ : ∀ k, k < W.heap.size + 2 → Z.heap[k]? = Y.heap[k]? := fun k hk => by rw [← hZ]; exact Below.heap_alloc _ _ _ (by omega)
  have nZ : Z.heap[W.heap.size + 2]? = some (.cells #[.pointer (some ⟨W.heap.size + 1, 0, none⟩)] 67 (0, 0)) := by rw [← hZ, ← sY]; exact heap_alloc_new _ _
  rw [hZ]
  refine ⟨?_, ?_, ?_, nZ, ?_⟩
  · rw [oZ _ (by omega), oY _ (by omega), oX _ a1]; exact h1
  · rw [oZ _ (by omega), oY _ (by omega), oX _ a2]; exact h2
  · rw [oZ _ (by omega)]; exact nY
  · obtain ⟨es, clock, h1, h2⟩ := mX
    exact ⟨es, clock, by rw [oZ _ (by omega), oY _ (by omega)]; exact h1, h2⟩
theorem cells_at3 {W : World} {k t : Nat} {vs : Array Value} (h : W.heap[k]? = some (.cells vs t (0, 0))) (o o2 o3 : Obj) (i : Nat) : (((W.alloc o).alloc o2).alloc o3).cell? ⟨k, i, none⟩ = vs[i]? :=
  cells_at2 ((Below.heap_alloc W o k (Array.getElem?_eq_some_iff.1 h).1).trans h) o2 o3 i
theorem below3 (w : World) (o p q : Obj) : Below w.heap.size w (((w.alloc o).alloc p).alloc q) := (below2 w o p).alloc (by simp; omega) _
theorem boxes (w : World) (a : Array Value) (t : TypeId) (b : Array Value) (u : TypeId) : ((w.alloc (.cells a t)).alloc (.cells b u)).heap[w.heap.size]? = some (.cells a t (0, 0)) ∧ ((w.alloc (.cells a t)).alloc (.cells b u)).heap[w.heap.size + 1]? = some (.cells b u (0, 0)) := by
  refine ⟨(Below.heap_alloc _ _ _ (by simp)).trans (heap_alloc_new w _), ?_⟩
  have := heap_alloc_new (w.alloc (.cells a t)) (.cells b u)
  rwa [World.size_alloc] at this
theorem wpIn_at {F : Fence} {n : Nat} {P : Program} {c : Code} {Q : Exit → Act → World → Prop} {a : Act} {w : World} {A : Act} {W' : World} (h : c.wpIn F n P (fun e a' w' => e = .normal ∧ a' = A ∧ w' = W') a w) (k : Q .normal A W') : c.wpIn F n P Q a w :=
  wpIn_mono h (by rintro _ _ _ ⟨rfl, rfl, rfl⟩; exact k)
theorem small_lt {w : World} {V I F B : Nat} (h : Small w V I F) (hB : w.heap.size + 1 < B) : V < B + 1 ∧ I < B + 1 ∧ F < B + 1 := by
  have h1 := (Array.getElem?_eq_some_iff.1 h.v).1
  have h2 := (Array.getElem?_eq_some_iff.1 h.i).1
  have h3 := (Array.getElem?_eq_some_iff.1 h.f).1
  omega
theorem below_put {B l : Nat} {w W : World} (h : Below B w W) (o : Obj) (hl : B ≤ l) : Below B w (W.putObj l o) :=
  h.trans ⟨rfl, rfl, rfl, by simp [World.putObj], fun k hk => World.putObj_heap_other (by omega)⟩
theorem res_s {x : Array Value} {b : Nat} {W : World} {v : Value} (h2 : x[2]?.getD undef = .pointer (some ⟨b, 0, none⟩)) (hb : W.heap[b]? = some (.cells #[v] 41 (0, 0))) :
    (results Try.f16 x).run Try.prog W = .ok v W := by
  have c0 : W.cell? ⟨b, 0, none⟩ = some v := cells_at hb 0
  simp [results, Try.results16, go_sem, h2, c0]
theorem leave_s {n S b : Nat} {Q : Ending → World → Prop} {W : World} {tm : Array Value} {v : Value} (hD : W.heap[S]? = some (.deferred (some []))) (h2 : tm[2]?.getD undef = .pointer (some ⟨b, 0, none⟩))
    (hb : W.heap[b]? = some (.cells #[v] 41 (0, 0))) (e : b ≠ S) (hQ : Q (.returned v) (W.putObj S (.deferred none))) :
    bodyPostM Fence.wide n Try.prog Try.f16 Q Exit.ret { tmps := tm, defers := [{ target := .collected S, args := #[] }] } W :=
  ⟨by simp, .inl ⟨_, _, rfl, run_takeDeferred hD, _, res_s h2 ((World.putObj_heap_other e).trans hb), hQ⟩⟩
theorem code_done {w wr W6 : World} {V I F B N D : Nat} {sl : Value} {o : Obj} (hN : w.heap.size + 1 < B) (hW : Small w V I F) (hbig : B + 3 ≤ N) (hD : N ≤ D) (hR : RS w.heap.size sl B (wr.alloc o)) (hM : Small (wr.alloc o) V I F)
    (hB : Below w.heap.size w wr) (hK : wr.heap[D]? = some (.deferred (some []))) (hb : Below (B + 1) (wr.alloc o) W6) (hk : ∀ k, k ≠ B + 1 → k < (wr.alloc o).heap.size → W6.heap[k]? = (wr.alloc o).heap[k]?) :
    Hid (W6.heap[w.heap.size]? = some (.cells #[n0, sl] 25 (0, 0))) ∧ Hid (W6.heap[w.heap.size + 1]? = some (.cells #[i0] 41 (0, 0))) ∧ Hid (Small W6 V I F) ∧ Hid (Below w.heap.size w W6) ∧ Hid (W6.heap[D]? = some (.deferred (some []))) := by
  have hl := small_lt hW hN
  have hd := (Array.getElem?_eq_some_iff.1 hK).1
  refine ⟨hid ((hb.block _ (by omega)).trans hR.t1), hid ((hb.block _ (by omega)).trans hR.t2), hid ⟨(hb.block _ hl.1).trans hM.v, (hb.block _ hl.2.1).trans hM.i, (hb.block _ hl.2.2).trans hM.f⟩, hid ?_, hid ?_⟩
  · exact (after hB (below1 _ _) hB.size).trans (hb.mono (by omega))
  · exact (hk D (by omega) (by rw [World.size_alloc]; omega)).trans ((Below.heap_alloc _ _ _ hd).trans hK)
theorem store_s {w W : World} {D : Nat} (v : Value) (hD : w.heap.size + 1 < D) (h1 : W.heap[D]? = some (.deferred (some []))) (h2 : W.heap[w.heap.size + 1]? = some (.cells #[i0] 41 (0, 0))) (hb : Below w.heap.size w W) :
    (W.setCell ⟨w.heap.size + 1, 0, none⟩ v).heap[D]? = some (.deferred (some [])) ∧ (W.setCell ⟨w.heap.size + 1, 0, none⟩ v).heap[w.heap.size + 1]? = some (.cells #[v] 41 (0, 0)) ∧ w.heap.size + 1 ≠ D ∧
      Below w.heap.size w ((W.setCell ⟨w.heap.size + 1, 0, none⟩ v).putObj D (.deferred none)) := by
  refine ⟨(Below.heap_setCell _ _ _ _ (by show D ≠ w.heap.size + 1; omega)).trans h1, ?_, by omega, below_put (hb.setCell (by show w.heap.size ≤ w.heap.size + 1; omega) _) _ (by omega)⟩
  simp [World.setCell, Array.getElem?_modify, h2]
theorem look_empty {W : World} {B : Nat} (h : W.ownsMap Try.prog 9 (plainElem (H := Unit) Try.prog 3) B 0 (.map [])) : (Instr.lookup 68 (.map (some B)) (.string ⟨#[]⟩) true).run Try.prog W = .ok (.tuple #[i0, .bool false]) W := by
  obtain ⟨v, ps, hrun, hv⟩ := h.look_ok (string_keyed Try.underlying9) Try.underlying68 (Try.zeroValue3 W) (plainElem_int Try.underlying3 (by decide)) (WideMaps.keyOf_string_mk Try.underlying9 (show ByteArray.size (⟨#[]⟩ : ByteArray) ≤ maxLen by decide))
  obtain ⟨c, rfl, hc, hwc⟩ := plainElem_int_inv Try.underlying3 hv
  rw [hrun]
  have e : (DataW.map [] : DataW Unit).atKey (.string []) (.lit (.int .i64 0)) = .lit (.int .i64 0) := rfl
  have hc' : (DataW.lit (.int .i64 0) : DataW Unit) = .lit (.int .i64 c) := e.symm.trans (congrArg Prod.fst hc)
  cases hc'
  rfl
theorem RS.drew {n : Nat} {sl : Value} {B : Nat} {W : World} (h : RS n sl B W) : RS n sl B W.drew := by
  obtain ⟨es, clock, h1, h2⟩ := h.m
  exact ⟨h.t1, h.t2, h.j, h.p, es, clock, h1, h2⟩
set_option maxRecDepth 100000 in
set_option maxHeartbeats 4000000 in
theorem right_s (w : World) (V I F : Nat) (hS : Small w V I F) : Calls Try.prog 16 #[smallV F] w fun e w' => e = .returned i0 ∧ Hid (Below w.heap.size w w') := by
  have hmm := @run_makeMap Try.prog
  have HB := hid (below2 w (.cells #[n0, .slice (some ⟨F, 0, none⟩) 1 1] 25) (.cells #[i0] 41))
  have HX := hid (boxes w #[n0, .slice (some ⟨F, 0, none⟩) 1 1] 25 #[i0] 41)
  have HS := hid (hS.below HB.out)
  have HW := hid hS
  clear hS
  refine (callsIn_wide (n := 10)).1 ?_
  refine callsIn_of_wp_marks Try.func16 rfl trivial ?_ rfl
  simp only [Try.ntmps16, List.size_toArray, List.length_cons, List.length_nil, Nat.reduceAdd, Nat.reduceSub, Array.replicate_succ, Array.replicate_zero, List.push_toArray, List.append_toArray, List.nil_append, List.cons_append]
  gi_wp2_with (refine ⟨trivial, ?_⟩; gi_at_call 34; refine (callsIn_wide.2 (twice_s _ _ _ _ HS.out)).mono ?_; rintro e w3 ⟨rfl, hb3⟩; have H3 := hid (old_block hb3.out (Array.getElem?_eq_some_iff.1 HX.out.1).1 HX.out.1); have hc3 := cells_at H3.out; have hc4 := cells_at3 H3.out)
  have HR := hid (RS.start _ _ _ H3.out (old_block hb3.out (Array.getElem?_eq_some_iff.1 HX.out.2).1 HX.out.2))
  have HN := hid (show w.heap.size + 1 < w3.heap.size from by have := hb3.out.size; simp at this; omega)
  have HB4 := hid (below3 w3 (.map #[] 0) (.cells (jobjM (.slice (some ⟨F, 0, none⟩) 1 1) w3.heap.size) 70) (.cells #[.pointer (some ⟨w3.heap.size + 1, 0, none⟩)] 67))
  obtain ⟨W4, hW4⟩ : ∃ W4, (((w3.alloc (.map #[] 0)).alloc (.cells (jobjM (.slice (some ⟨F, 0, none⟩) 1 1) w3.heap.size) 70)).alloc (.cells #[.pointer (some ⟨w3.heap.size + 1, 0, none⟩)] 67)) = W4 := ⟨_, rfl⟩
  rw [hW4] at HR HB4 ⊢
  have HB5 := hid (after HB.out (after hb3.out HB4.out hb3.out.size) HB.out.size)
  clear hW4 hc3 hc4 H3 HB4 hb3 HX HB HS
  obtain ⟨B, hB⟩ : ∃ B, w3.heap.size = B := ⟨_, rfl⟩
  rw [hB] at HR HN ⊢
  clear hB
  have hc := cells_at HR.out.t1
  gi_loopw [32] (fun p wr => p = .int .i64 0 ∧ wr = W4) (fun p wr => 0)
  case atStart => exact ⟨rfl, rfl⟩
  case round =>
    obtain ⟨rfl, rfl⟩ := hrel
    gi_wp2_with (refine ⟨trivial, ?_⟩; gi_at_call 35; refine (callsIn_wide.2 (types_f _ rfl _)).mono ?_; rintro e w' ⟨rfl, rfl⟩)
    have HR2 := hid (HR.out.below HN.out (below1 _ (.cells #[n0, .slice (some ⟨F, 0, none⟩) 1 1] 25)))
    have HB6 := hid (after HB5.out (below1 _ (.cells #[n0, .slice (some ⟨F, 0, none⟩) 1 1] 25)) HB5.out.size)
    have hM : Mod (wr.alloc (.cells #[n0, .slice (some ⟨F, 0, none⟩) 1 1] 25)) V I F wr.heap.size := ⟨HW.out.below HB6.out, heap_alloc_new wr _⟩
    have hbig : B + 3 ≤ (wr.alloc (.cells #[n0, .slice (some ⟨F, 0, none⟩) 1 1] 25)).heap.size := HR2.out.size
    obtain ⟨Q, hQ⟩ : ∃ Q, wr.heap.size = Q := ⟨_, rfl⟩
    rw [hQ] at hM ⊢
    clear hQ hc
    obtain ⟨W0, hW0⟩ : ∃ W0, wr.alloc (.cells #[n0, .slice (some ⟨F, 0, none⟩) 1 1] 25) = W0 := ⟨_, rfl⟩
    rw [hW0] at HR2 HB6 hM hbig ⊢
    clear hW0
    refine wpIn_rangeFunc_ownH rfl (by decide) (gf := 49) (lb := #[.pointer (some ⟨Q, 0, none⟩)]) rfl trivial (enters_of Try.func49 (by kernel_rfl) rfl)
      (types_s Fence.wide (10 - 1) trivial rfl (by decide) V I F Q _ hM) (fun h k => h.trans k) KC.put (Below.refl _ _) (fun _ => rfl)
      (fun pre W => RS w.heap.size (.slice (some ⟨F, 0, none⟩) 1 1) B W ∧ Below w.heap.size w W)
      (fun _ _ _ => False)
      (OwnFrom.and (RS.own _ _ _ _ HN.out hbig) (ownFrom_below (Nat.le_refl _) HB6.out.size))
      (fun _ _ _ _ _ hs _ _ => hs)
      ⟨HR2.out, HB6.out⟩
      (fun x a' W => ∃ Bx, B + 3 ≤ Bx ∧ W.heap[Bx]? = some (.cells #[.bool false, s0] 31 (0, 0)) ∧ a' = { tmps := #[smallV F, Value.pointer (some { block := w.heap.size, off := 0 }), Value.pointer (some { block := w.heap.size + 1, off := 0 }), Value.pointer (some { block := B + 1 + 1, off := 0 }), u4, u5, Value.pointer (some ⟨Bx, 0, none⟩), undef, undef, undef, undef, undef, undef, Value.pointer (some { block := w.heap.size, off := 0 }), n0, Value.int IntKind.i64 0, Value.bool false, Value.bool false, Value.pointer (some { block := w.heap.size, off := 1 }), Value.slice (some { block := F, off := 0 }) 1 1, Value.int IntKind.i64 1, Value.bool false, Value.bool false, Value.agg #[n0, Value.slice (some { block := F, off := 0 }) 1 1], Value.bool false, Value.agg #[n0, Value.slice (some { block := F, off := 0 }) 1 1], Value.map (some B), Value.agg #[n0, Value.slice (some { block := F, off := 0 }) 1 1, Value.map (some B), Value.string { data := #[] }, Value.int IntKind.i64 0, Value.slice none 0 0, Value.bool false, Value.string { data := #[] }, Value.int IntKind.i64 0, Value.slice none 0 0, Value.slice none 0 0], Value.pointer (some { block := B + 1, off := 0 }), Value.pointer (some { block := w.heap.size, off := 0 }), n0, Value.int IntKind.i64 0, Value.int IntKind.i64 0, Value.bool false, u34, u35, u36, u37, u38, u39, u40, u41, u42, u43, u44, Value.agg #[n0, Value.slice (some { block := F, off := 0 }) 1 1], Value.func (Fn.func 49) #[] #[Value.pointer (some { block := Q, off := 0 })], T0, undef, undef, undef, undef, undef, undef, undef, undef, undef, undef, undef, undef, undef, undef, undef, undef, undef, undef, undef, undef, undef, undef, undef, undef, undef, undef, undef, undef, undef, undef, undef, undef, undef, undef, undef, undef, undef, undef, undef, undef, undef, undef, undef, undef, undef, undef, undef, undef, undef, undef, undef, undef, undef, undef, undef, undef, undef, undef, undef, undef, undef, undef, undef], defers := [] })
      (fun x a' _ X Y row hs hg hr => by obtain ⟨Bx, h1, h2, h3⟩ := hs; exact ⟨Bx, h1, (hg.block _ (Array.getElem?_eq_some_iff.1 h2).1 (fun e => by obtain ⟨_, o, ho, hoc⟩ := hr _ e.symm; rw [h2] at ho; cases ho; cases hoc)).trans h2, h3⟩)
      ?assign ?body ?done ?stop
    case assign =>
      rintro l pre x W K ⟨hr1, hb1⟩ hK
      gi_wp2
      exact hK _ _ ((KeepsOthers.alloc _ _).from _) (KC.of_below (below1 _ _)) ⟨hr1.below HN.out (below1 _ _), after hb1 (below1 _ _) hb1.size⟩ ⟨W.heap.size, hr1.size, heap_alloc_new _ _, rfl⟩
    case body =>
      rintro l pre x a' W hl ⟨r, hr⟩ ⟨hr1, hb1⟩ ⟨Bx, hBx, hX, rfl⟩ hlt
      have hls : Try.prog.follows .lateStores = true := by kernel_rfl
      have hp : W.cell? ⟨B + 1 + 1, 0, none⟩ = some (.pointer (some ⟨B + 1, 0, none⟩)) := cells_at hr1.p 0
      have hj := cells_at hr1.j
      have hx := cells_at hX
      have hlk := look_empty hr1.drew.m
      have HR1 := hid hr1
      have HB1 := hid hb1
      clear hr1 hb1 hX hr hl
      gi_wp2
      apply wpIn_at
      · gi_region
        all_goals exact ⟨rfl, rfl, rfl⟩
      gi_wp2
      exact ⟨(KeepsOthers.drew _).from _, ⟨fun _ _ _ _ h => h⟩, HR1.out.drew, HB1.out.drew⟩
    case done =>
      rintro D ys W hD _ ⟨hr1, hb1⟩ hK
      have hc := cells_at hr1.t1
      have HR1 := hid hr1
      have HB1 := hid hb1
      clear hr1 hb1
      gi_wp2
      clear hc
      have HK := hid hK
      have HD := hid hD
      clear hK hD
      have HZ : Hid (W.heap[w.heap.size + 1]? = some (.cells #[i0] 41 (0, 0))) := hid HR1.out.t2
      have HT := hid HR1.out.t1
      have HM := hid (HW.out.below HB1.out)
      gi_loopw [77] (fun p W5 => ∃ k : Nat, (k = 0 ∧ W5 = W ∨ k = 1) ∧ p = .int .i64 k ∧ Hid (W5.heap[w.heap.size]? = some (.cells #[n0, .slice (some ⟨F, 0, none⟩) 1 1] 25 (0, 0))) ∧ Hid (W5.heap[w.heap.size + 1]? = some (.cells #[i0] 41 (0, 0))) ∧
        Hid (Small W5 V I F) ∧ Hid (Below w.heap.size w W5) ∧ Hid (W5.heap[D]? = some (.deferred (some [])))) (fun p W5 => 1 - (intOf p).toNat)
      case atStart => exact ⟨0, .inl ⟨rfl, rfl⟩, rfl, HT, HZ, HM, HB1, HK⟩
      case round =>
        obtain ⟨k, hk, rfl, HT1, HZ1, HM1, HB7, HK1⟩ := hrel
        rcases hk with ⟨rfl, hEq⟩ | rfl
        · have hf := cells_at HM1.out.f
          have HR5 := hid (show RS w.heap.size (.slice (some ⟨F, 0, none⟩) 1 1) B wr from hEq ▸ HR1.out)
          clear hEq HR1 HT HZ HM HB1 HK
          have hp : (wr.alloc (.cells (codeObj V I) 37)).cell? ⟨B + 1 + 1, 0, none⟩ = some (.pointer (some ⟨B + 1, 0, none⟩)) := cells_at1 HR5.out.p _ 0
          have HR6 := hid (HR5.out.below HN.out (below1 _ (.cells (codeObj V I) 37)))
          have HM6 := hid (HM1.out.below (below1 _ (.cells (codeObj V I) 37)))
          have HV := hid (small_lt HW.out HN.out)
          gi_wp2_with (refine ⟨trivial, ?_⟩; gi_at_call 36; refine (callsIn_wide.2 (code_i _ V I F B (B + 1) HM6.out HR6.out.j HV.out.1 HV.out.2.1 HV.out.2.2)).mono ?_; rintro e W6 ⟨rfl, hb6, hk6⟩)
          exact ⟨⟨1, .inr rfl, rfl, code_done HN.out HW.out hbig HD.out HR6.out HM6.out HB7.out HK1.out hb6.out hk6.out.2⟩, by simp [intOf]⟩
        · have ht := cells_at HT1.out
          clear HR1 HT HZ HM HB1 HK
          gi_wp2_with (refine ⟨trivial, ?_⟩; gi_at_call 12; refine (callsIn_wide.2 (func_s _ _ _ _ HM1.out)).mono ?_; rintro e W7 ⟨rfl, hb7⟩; have ht7 := cells_at (old_block hb7.out (Array.getElem?_eq_some_iff.1 HT1.out).1 HT1.out); have hf7 := cells_at (HM1.out.below hb7.out).f; have hz7 := frozen_no (old_block hb7.out (Array.getElem?_eq_some_iff.1 HZ1.out).1 HZ1.out) 0; have hy7 := cells_at (old_block hb7.out (Array.getElem?_eq_some_iff.1 HZ1.out).1 HZ1.out))
          have e := store_s (i0) (by have := HD.out; have := HN.out; omega) (old_block hb7.out (Array.getElem?_eq_some_iff.1 HK1.out).1 HK1.out) (old_block hb7.out (Array.getElem?_eq_some_iff.1 HZ1.out).1 HZ1.out) (after HB7.out hb7.out HB7.out.size)
          refine leave_s (S := D) (b := w.heap.size + 1) (v := i0) e.1 ?_ e.2.1 e.2.2.1 ?_
          · rfl
          · exact ⟨rfl, hid e.2.2.2⟩
    case stop =>
      rintro D c pre W _ _ h _
      exact h.elim
end Go.Proofs.Ytfhdiahjfnphkaa
