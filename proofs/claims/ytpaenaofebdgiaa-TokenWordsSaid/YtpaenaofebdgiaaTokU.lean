/- What Scan does. Condition: at most 1000000 bytes. -/
import Derived.Test.YtpaenaofebdgiaaTokT
namespace Go.Proofs.Ytpaenaofebdgiaa
open Go.RowKit Go.Shelf
attribute [local go_sem] Oper.semAt_some
theorem leave_any {n S b2 b3 : Nat} {Q : Ending → World → Prop} {W : World} {tm : Array Value} {v u0 u1 u2 u3 : Value}
    (hD : W.heap[S]? = some (.deferred (some []))) (h2 : tm[2]?.getD undef = .pointer (some ⟨b2, 0, none⟩)) (h3 : tm[3]?.getD undef = .pointer (some ⟨b3, 0, none⟩))
    (hb2 : W.heap[b2]? = some (.cells #[v] 22 (0, 0))) (hb3 : W.heap[b3]? = some (.cells #[u0, u1, u2, u3] 34 (0, 0))) (e2 : b2 ≠ S) (e3 : b3 ≠ S)
    (hQ : Q (.returned (.tuple #[v, .agg #[u0, u1, u2, u3]])) (W.putObj S (.deferred none))) :
    bodyPostM Fence.wide n Try.prog Try.f14 Q Exit.ret { tmps := tm, defers := [{ target := .collected S, args := #[] }] } W := by
  refine ⟨by simp, .inl ⟨_, _, rfl, run_takeDeferred hD, ?_⟩⟩
  exact ⟨_, res_scan Try.results14 h2 h3 ((World.putObj_heap_other e2).trans hb2) ((World.putObj_heap_other e3).trans hb3), hQ⟩
theorem set_output (W : World) (a : Addr) (v : Value) : (W.setCell a v).output = W.output := rfl
theorem out_drew {w W Wa : World} {N : Nat} {pre : List El} {x : El} {a c0 c1 c2 c3 : Value} (hwa : w.heap.size + 3 ≤ Wa.heap.size) (h6 : Below w.heap.size w W)
    (g1 : W.heap[w.heap.size]? = some (.cells #[a] 22 (0, 0))) (g2 : W.heap[w.heap.size + 1]? = some (.cells #[c0, c1, c2, c3] 34 (0, 0))) (hx : x.wh ≠ 0) :
    Held (w.heap.size + 4) N Wa W (outW W w.heap.size (w.heap.size + 1) (.slice none 0 0) (.int .i64 x.st) (.int .i64 x.wh) (.int .i64 x.dl) (.int .i64 x.dc)).drew ∧
    OutS w .ret (pre ++ [x]) (outW W w.heap.size (w.heap.size + 1) (.slice none 0 0) (.int .i64 x.st) (.int .i64 x.wh) (.int .i64 x.dl) (.int .i64 x.dc)).drew := by
  have HF := outW_facts (.slice none 0 0) (.int .i64 x.st) (.int .i64 x.wh) (.int .i64 x.dl) (.int .i64 x.dc) g1 g2 (Nat.ne_of_lt (Nat.lt_succ_self _))
  obtain ⟨W', hW'⟩ : ∃ W', outW W w.heap.size (w.heap.size + 1) (.slice none 0 0) (.int .i64 x.st) (.int .i64 x.wh) (.int .i64 x.dl) (.int .i64 x.dc) = W' := ⟨_, rfl⟩
  have e1 : W'.os = W.os := by rw [← hW']; rfl
  have e2 : W'.tape = W.tape := by rw [← hW']; rfl
  have e3 : W'.output = W.output := by rw [← hW']; exact (set_output _ _ _).trans ((set_output _ _ _).trans ((set_output _ _ _).trans ((set_output _ _ _).trans (set_output _ _ _))))
  rw [hW'] at HF ⊢
  exact out_step (W' := W'.drew) rfl hwa h6 e1 e2 e3 HF.2.2.2 HF.1 HF.2.1 HF.2.2.1 hx
theorem set_tape (W : World) (a : Addr) (v : Value) : (W.setCell a v).tape = W.tape := rfl
theorem set_os (W : World) (a : Addr) (v : Value) : (W.setCell a v).os = W.os := rfl
theorem outW_rest (W : World) (b2 b3 : Nat) (v u0 u1 u2 u3 : Value) : (outW W b2 b3 v u0 u1 u2 u3).os = W.os ∧ (outW W b2 b3 v u0 u1 u2 u3).tape = W.tape ∧ (outW W b2 b3 v u0 u1 u2 u3).output = W.output :=
  ⟨(set_os _ _ _).trans ((set_os _ _ _).trans ((set_os _ _ _).trans ((set_os _ _ _).trans (set_os _ _ _)))), (set_tape _ _ _).trans ((set_tape _ _ _).trans ((set_tape _ _ _).trans ((set_tape _ _ _).trans (set_tape _ _ _)))),
   (set_output _ _ _).trans ((set_output _ _ _).trans ((set_output _ _ _).trans ((set_output _ _ _).trans (set_output _ _ _))))⟩
theorem below_put {B l : Nat} {w W : World} (h : Below B w W) (o : Obj) (hl : B ≤ l) : Below B w (W.putObj l o) :=
  h.trans ⟨rfl, rfl, rfl, by simp [World.putObj], fun k hk => World.putObj_heap_other (by omega)⟩
theorem leave_done {n : Nat} {s : ByteArray} {w W : World} {Q : Ending → World → Prop} {tm : Array Value} {ao : Option Addr} {vl vc : Nat} {a c0 c1 c2 c3 : Value} (hQ : Q = ScanPost s w)
    (hD : W.heap[w.heap.size + 1 + 1 + 1 + 1]? = some (.deferred (some []))) (g1 : W.heap[w.heap.size]? = some (.cells #[a] 22 (0, 0))) (g2 : W.heap[w.heap.size + 1]? = some (.cells #[c0, c1, c2, c3] 34 (0, 0)))
    (g4 : W.ownsRow (w.heap.size + 4 + 3) 27 5 (.slice ao vl vc) (elems (scanL s.data.toList)).length ((elems (scanL s.data.toList)).flatMap tokCells)) (g5 : ∀ y ∈ elems (scanL s.data.toList), y.wh = 0) (g6 : Below w.heap.size w W)
    (h2 : tm[2]?.getD undef = .pointer (some ⟨w.heap.size, 0, none⟩)) (h3 : tm[3]?.getD undef = .pointer (some ⟨w.heap.size + 1, 0, none⟩)) :
    bodyPostM Fence.wide n Try.prog Try.f14 Q Exit.ret { tmps := tm, defers := [{ target := .collected (w.heap.size + 1 + 1 + 1 + 1), args := #[] }] }
      (outW W w.heap.size (w.heap.size + 1) (.slice ao vl vc) (.int .i64 0) (.int .i64 0) (.int .i64 0) (.int .i64 0)) := by
  have HF := outW_facts (.slice ao vl vc) (.int .i64 0) (.int .i64 0) (.int .i64 0) (.int .i64 0) g1 g2 (Nat.ne_of_lt (Nat.lt_succ_self _))
  have HR := outW_rest W w.heap.size (w.heap.size + 1) (.slice ao vl vc) (.int .i64 0) (.int .i64 0) (.int .i64 0) (.int .i64 0)
  obtain ⟨W', hW'⟩ : ∃ W', outW W w.heap.size (w.heap.size + 1) (.slice ao vl vc) (.int .i64 0) (.int .i64 0) (.int .i64 0) (.int .i64 0) = W' := ⟨_, rfl⟩
  rw [hW'] at HF HR ⊢
  obtain ⟨q1, q2, q3, q4⟩ := HF
  obtain ⟨r1, r2, r3⟩ := HR
  refine leave_any ((q3 _ (by omega) (by omega)).trans hD) h2 h3 q1 q2 (by omega) (by omega) ?_
  rw [hQ]
  obtain ⟨z1, z2⟩ := scan_done g5
  rw [z2] at g4
  have hw6 := g6.size
  refine ⟨below_put (g6.trans ⟨r1, r2, r3, Nat.le_of_eq q4.symm, fun k hk => q3 k (by omega) (by omega)⟩) _ (by omega), .inl ⟨z1, _, rfl, ?_⟩⟩
  rw [List.length_map] at g4
  refine ⟨g4.1, ?_⟩
  rcases g4.2 with q | ⟨g, cap, cur, hv, hb, hg, rest⟩
  · exact .inl q
  · exact .inr ⟨g, cap, cur, hv, by omega, (World.putObj_heap_other (by omega)).trans ((q3 g (by omega) (by omega)).trans hg), rest⟩
theorem leave_stop {n : Nat} {s : ByteArray} {w W : World} {Q : Ending → World → Prop} {tm : Array Value} {pre rest pre' : List El} {x x' : El} (hQ : Q = ScanPost s w)
    (hD : W.heap[w.heap.size + 1 + 1 + 1 + 1]? = some (.deferred (some []))) (hel : elems (scanL s.data.toList) = pre ++ x :: rest) (he : pre ++ [x] = pre' ++ [x']) (hx : x'.wh ≠ 0)
    (g2 : W.heap[w.heap.size]? = some (.cells #[.slice none 0 0] 22 (0, 0))) (g3 : W.heap[w.heap.size + 1]? = some (diagObj x')) (g6 : Below w.heap.size w W)
    (h2 : tm[2]?.getD undef = .pointer (some ⟨w.heap.size, 0, none⟩)) (h3 : tm[3]?.getD undef = .pointer (some ⟨w.heap.size + 1, 0, none⟩)) :
    bodyPostM Fence.wide n Try.prog Try.f14 Q Exit.ret { tmps := tm, defers := [{ target := .collected (w.heap.size + 1 + 1 + 1 + 1), args := #[] }] } W := by
  have hxx : x = x' := by
    have := congrArg List.getLast? he
    simpa using this
  subst hxx
  obtain ⟨d, hd, rfl⟩ := scan_stop hel hx
  refine leave_any hD h2 h3 g2 g3 (by omega) (by omega) ?_
  rw [hQ]
  exact ⟨below_put g6 _ (by omega), .inr ⟨d, hd, rfl⟩⟩
theorem inv_start (w : World) (o : Obj) (t : World) (ht : t = (((w.alloc (.cells #[.slice none 0 0] 22)).alloc (.cells #[.int .i64 0, .int .i64 0, .int .i64 0, .int .i64 0] 34)).alloc (.cells #[.slice none 0 0] 22)).alloc o := by rfl) : InvS w [] t := by
  subst ht
  have a1 := heap_alloc_new w (.cells #[.slice none 0 0] 22)
  have a2 := heap_alloc_new (w.alloc (.cells #[.slice none 0 0] 22)) (.cells #[.int .i64 0, .int .i64 0, .int .i64 0, .int .i64 0] 34)
  have a3 := heap_alloc_new ((w.alloc (.cells #[.slice none 0 0] 22)).alloc (.cells #[.int .i64 0, .int .i64 0, .int .i64 0, .int .i64 0] 34)) (.cells #[.slice none 0 0] 22)
  simp only [World.size_alloc] at a2 a3
  refine ⟨?_, ?_, ⟨.slice none 0 0, ?_, World.ownsRow_nil _ _ _ _⟩, by simp, ?_⟩
  · exact (Below.heap_alloc _ _ _ (by simp only [World.size_alloc]; omega)).trans ((Below.heap_alloc _ _ _ (by simp only [World.size_alloc]; omega)).trans ((Below.heap_alloc _ _ _ (by simp only [World.size_alloc]; omega)).trans a1))
  · exact (Below.heap_alloc _ _ _ (by simp only [World.size_alloc]; omega)).trans ((Below.heap_alloc _ _ _ (by simp only [World.size_alloc]; omega)).trans a2)
  · exact (Below.heap_alloc _ _ _ (by simp only [World.size_alloc]; omega)).trans a3
  · exact ((((Below.refl _ w).alloc (Nat.le_refl _) _).alloc (by simp only [World.size_alloc]; omega) _).alloc (by simp only [World.size_alloc]; omega) _).alloc (by simp only [World.size_alloc]; omega) _
theorem postT_n {S N : Nat} {I : List El → World → Prop} {Ix : Code → List El → World → Prop} {xs : List El} {Wa W W' : World} {a : Act} (h : Held S N Wa W W' ∧ I xs W') : postT S N I Ix xs Wa W .normal a W' := h
theorem postT_r {S N : Nat} {I : List El → World → Prop} {Ix : Code → List El → World → Prop} {xs : List El} {Wa W W' : World} {a : Act} (h : Held S N Wa W W' ∧ Ix .ret xs W') : postT S N I Ix xs Wa W .ret a W' := h
set_option maxRecDepth 100000 in
set_option maxHeartbeats 8000000 in
theorem scan_fenced (n : Nat) (hn : 3 ≤ n) (s : ByteArray) (w : World) (hs : s.size ≤ 1000000) :
    CallsIn Fence.wide n Try.prog 14 #[.string s] w (ScanPost s w) := by
  obtain ⟨Q, HQ⟩ : ∃ Q, Hid (Q = ScanPost s w) := ⟨_, hid rfl⟩
  rw [← HQ.out]
  have h1 : 1 ≤ n := by omega
  refine callsIn_of_wp_marks Try.func14 rfl trivial ?_ rfl
  simp only [Try.ntmps14, List.size_toArray, List.length_cons, List.length_nil, Nat.reduceAdd, Nat.reduceSub, Array.replicate_succ, Array.replicate_zero, List.push_toArray, List.append_toArray, List.nil_append, List.cons_append]
  gi_wp2_with (refine ⟨trivial, ?_⟩; gi_at_call 21; refine (each0_in (n - 1) s _).mono ?_; rintro e w' ⟨rfl, rfl⟩)
  refine range_tokens n (by omega) (w.heap.size + 3) s hs rfl (by have := (blk1 (heap_alloc_new ((((w.alloc (.cells #[.slice none 0 0] 22)).alloc (.cells #[.int .i64 0, .int .i64 0, .int .i64 0, .int .i64 0] 34)).alloc (.cells #[.slice none 0 0] 22))) (.cells #[.string s] 9))).1; simpa using this) rfl (InvS w) (OutS w) (fun pre A B h hN => h.near (by simpa using hN)) (fun c pre A B h hN => h.near (by simpa using hN)) ?h0 tokObj diagObj
    (fun x N => { tmps := #[.string s, undef, .pointer (some ⟨w.heap.size, 0, none⟩), .pointer (some ⟨w.heap.size + 1, 0, none⟩), .pointer (some ⟨w.heap.size + 2, 0, none⟩), .pointer (some ⟨N, 0, none⟩), .pointer (some ⟨N + 1, 0, none⟩), .string s, .func (.func 25) #[] #[.pointer (some ⟨w.heap.size + 3, 0, none⟩)], tokV x.kind x.tx x.num x.line x.col, diagV x.st x.wh x.dl x.dc, undef, undef, undef, undef, undef, undef, undef, undef, undef, undef], defers := [] }) ?assign ?body ?done ?stop
  case h0 => exact inv_start w _ _
  case assign =>
    intro l x W K hK
    gi_wp2
    exact hK
  case body =>
    intro l pre x rest Wa W N hel hIa hN hWa hN3 hsz hx0 hx1
    have hN' : Near (w.heap.size + 4) Wa W := by simpa using hN
    have hI := hIa.near hN'
    have HI := hid hI
    have HA := hid (show ∀ v g, W.heap[w.heap.size + 2]? = some (.cells #[v] 22 (0, 0)) → v.ownBlock = some g → g < Wa.heap.size from fun v g hv hg => by
      obtain ⟨-, -, ⟨va, a1, a2⟩, -, -⟩ := hIa
      have := (near_block hN' a1 (.inl (by omega))).symm.trans hv
      simp at this
      subst this
      exact (a2.lt g hg).2)
    have hN3' : w.heap.size + 4 + 3 ≤ N := by simpa using hN3
    have hwa : w.heap.size + 3 ≤ Wa.heap.size := by
      obtain ⟨-, -, ⟨va, a1, a2⟩, -, -⟩ := hIa
      have := (Array.getElem?_eq_some_iff.1 a1).1
      omega
    have hpl : pre.length ≤ 1000002 := by
      have := eachL_len s.data.toList (s.data.toList.length + 1) 0 1 0
      rw [show eachL s.data.toList (s.data.toList.length + 1) 0 1 0 = scanL s.data.toList from rfl, hel, ← Lib.size_eq] at this
      simp at this
      omega
    have hsz' : N + 2 ≤ W.heap.size := by omega
    clear hN hN' hIa hN3 hel hWa hsz
    obtain ⟨i0, hi, hz0, hz1, hz2⟩ := info_parts Try.info27
    obtain ⟨g1, g2, ⟨v, g3, g4⟩, g5, g6⟩ := hI
    obtain ⟨⟨t0, t1, t2, t3, t4⟩, -⟩ := blk5 hx0
    obtain ⟨⟨d0, d1, d2, d3⟩, -⟩ := blk4 hx1
    obtain ⟨p0, p1⟩ := blk1 g1
    obtain ⟨⟨r0, r1, r2, r3⟩, r4, r5, r6, r7⟩ := blk4 g2
    obtain ⟨v0, v1⟩ := blk1 g3
    by_cases hw0 : x.wh = 0
    · have hb0 : ((x.wh : Int) != 0) = false := by simp [hw0]
      have G4 := hid g4
      have G3 := hid g3
      have HX := hid hw0
      clear g1 g2 g3 g4 g5 p0 p1 r0 r1 r2 r3 r4 r5 r6 r7 hw0 hx0 hx1
      gi_wp2_with (gi_at_builtin; go_must (refine wpListIn_append_own _ rfl _ _ 22 rfl (w.heap.size + 4 + 3) 27 i0 (.agg #[.int .i64 0, .string ⟨#[]⟩, .int .i64 0, .int .i64 0, .int .i64 0]) 5 48 Try.underlying22 hi hz0 hz1 hz2 rfl (by decide) _ _ _ rfl (G4.out.alloc _) ⟨W.heap.size, 0, none⟩ 1 1 (tokCells x) rfl rfl (cell_tok_new _ _) (tok_one x) (by unfold maxLen; omega) (by omega) (by rw [World.size_alloc]; omega) ?_); intro v' w1 hown hgrow _; obtain ⟨g', cap', rfl⟩ := ownsRow_succ hown; have hw1 : w1.heap[w.heap.size + 2]? = some (.cells #[v] 22 (0, 0)) := (hgrow.block _ (by rw [World.size_alloc]; omega) (fun e => by have := (G4.out.lt _ e.symm).1; omega)).trans ((Below.heap_alloc _ _ _ (by omega)).trans G3.out); obtain ⟨v0, v1⟩ := blk1 hw1; have HW := hid (inv_step (N := N) HI.out G3.out G4.out (fun g hg => HA.out v g G3.out hg) hwa (by omega) HX.out hown hgrow); clear hw1 hown hgrow)
      simp only [World.size_alloc]
      rw [show w.heap.size + 1 + 1 + 1 + 1 = w.heap.size + 4 from rfl]
      exact postT_n HW.out
    · have hb0 : ((x.wh : Int) != 0) = true := by simpa using hw0
      gi_wp2
      have hmx : Try.prog.follows .mixedOrders = true := by kernel_rfl
      have hls : Try.prog.follows .lateStores = true := by kernel_rfl
      gi_region_with_o (fail)
      all_goals gi_wp2
      all_goals simp only [World.size_alloc]
      all_goals
        rw [show w.heap.size + 1 + 1 + 1 + 1 = w.heap.size + 4 from rfl]
        exact postT_r (out_drew hwa g6 g1 g2 hw0)
  case done =>
    intro W hI hD
    simp only [World.size_alloc] at hD
    obtain ⟨g1, g2, ⟨v, g3, g4⟩, g5, g6⟩ := hI
    obtain ⟨ao, vl, vc, rfl⟩ : ∃ ao vl vc, v = .slice ao vl vc := by
      rcases g4.2 with ⟨e, -⟩ | ⟨g, cap, cur, e, -⟩
      · exact ⟨none, 0, 0, e⟩
      · exact ⟨_, _, _, e⟩
    obtain ⟨p0, p1⟩ := blk1 g1
    obtain ⟨⟨r0, r1, r2, r3⟩, r4, r5, r6, r7⟩ := blk4 g2
    obtain ⟨v0, v1⟩ := blk1 g3
    have v0' : W.cell? ⟨w.heap.size + 1 + 1, 0, none⟩ = some (.slice ao vl vc) := v0
    clear v0 v1
    have HD := hid hD
    have G := hid (And.intro g1 (And.intro g2 (And.intro g3 (And.intro g4 (And.intro g5 g6)))))
    clear g1 g2 g3 g4 g5 g6 hD
    gi_wp2
    simp only [World.size_alloc]
    obtain ⟨g1, g2, g3, g4, g5, g6⟩ := G.out
    exact leave_done HQ.out HD.out g1 g2 g4 g5 g6 rfl rfl
  case stop =>
    intro c pre x rest W hel hO hD
    obtain ⟨rfl, pre', x', he, hx, g2, g3, g6⟩ := hO
    gi_wp2
    simp only [World.size_alloc] at hD ⊢
    exact leave_stop HQ.out hD hel he hx g2 g3 g6 rfl rfl
/-- **Scan, as a call.** -/
theorem scan_i (s : ByteArray) (w : World) (hs : s.size ≤ 1000000) : Calls Try.prog 14 #[.string s] w (ScanPost s w) :=
  (callsIn_wide (n := 3)).1 (scan_fenced 3 (Nat.le_refl _) s w hs)
end Go.Proofs.Ytpaenaofebdgiaa
