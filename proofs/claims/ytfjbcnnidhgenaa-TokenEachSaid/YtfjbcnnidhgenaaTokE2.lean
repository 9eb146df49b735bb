/- TokenEach, as a call: it returns true, and leaves what was as it was. No conditions. -/
import Derived.Test.YtfjbcnnidhgenaaTokE1
namespace Go.Proofs.Ytfjbcnnidhgenaa
open Go.RowKit Go.Shelf
attribute [local go_sem] Oper.semAt_some
set_option linter.unusedVariables false
set_option linter.unusedSimpArgs false
theorem alive_in (n : Nat) (w : World) : CallsIn Fence.wide n Try.prog 5 #[] w fun e w' => e = .returned (.bool true) ∧ Hid (Below w.heap.size w w') :=
  callsIn_wide.2 (alive_i w)
theorem rscan_in (n : Nat) (s : ByteArray) (w : World) (hs : s.size ≤ 1000000) (hw : 0 < w.heap.size) {N : Nat} {od : Option D} (hN : N = (scanL s.data.toList).1.length) (hod : od = (scanL s.data.toList).2) : CallsIn Fence.wide n Try.prog 6 #[.string s] w fun e w' =>
    ∃ ao cap g, e = .returned (.tuple #[.slice ao N cap, .agg #[.int .i64 (dSt od), .int .i64 (dWh od), .int .i64 (dLn od), .int .i64 (dCl od)]]) ∧ N ≤ cap ∧ cap ≤ 9223372036854775807 ∧
      Hid (Below w.heap.size w w') ∧ Hid (g < w'.heap.size ∧ (N ≠ 0 → ao = some ⟨g, 0, none⟩) ∧ ∀ j u, (((scanL s.data.toList).1.map elT).flatMap tokCells)[j]? = some u → w'.cell? ⟨g, j, none⟩ = some u) := by
  refine callsIn_wide.2 ((rscan_i s w hs).mono ?_)
  rintro e w' ⟨hb, v, rfl, hown⟩
  subst hN hod
  rw [diagOf_eq]
  by_cases h0 : (scanL s.data.toList).1.length = 0
  · have hnil := List.eq_nil_of_length_eq_zero h0
    rcases hown.2 with ⟨rfl, -⟩ | ⟨g, cap, cur, hv, hbb, hg, hcap, hmax, hcur⟩
    · exact ⟨none, 0, 0, by rw [h0], by omega, by omega, hb, by have := hb.size; omega, fun q => absurd h0 q, by rw [hnil]; simp⟩
    · exact ⟨_, cap, g, by rw [hv], hcap, hmax, hb, (Array.getElem?_eq_some_iff.1 hg).1, fun _ => rfl, by rw [hnil]; simp⟩
  · obtain ⟨g, cap, rfl, h1, h2, h3, hc⟩ := row_cell hown h0
    exact ⟨_, cap, g, rfl, h1, h2, hb, (hown.lt g rfl).2, fun _ => rfl, hc⟩
theorem wpIn_at {F : Fence} {n : Nat} {P : Program} {c : Code} {Q : Exit → Act → World → Prop} {a : Act} {w : World} {A : Act} {W' : World} (h : c.wpIn F n P (fun e a' w' => e = .normal ∧ a' = A ∧ w' = W') a w) (k : Q .normal A W') : c.wpIn F n P Q a w :=
  wpIn_mono h (by rintro _ _ _ ⟨rfl, rfl, rfl⟩; exact k)
theorem q_t {a b : Int} (h : (a == b) = true) : a = b := by simpa using h
theorem q_f {a b : Int} (h : (a == b) = false) : ¬ a = b := by simpa using h
abbrev IT (od : Option D) (cs : List Value) (stop : Int) (w : World) (B g : Nat) (v : Value) (L : Nat) (pre : List El) (W : World) : Prop :=
  InvT od cs stop w B g v pre.length (decide (L < pre.length)) W ∧ ∀ m : Nat, 1 ≤ m → m ≤ pre.length → (m : Int) ≠ stop
abbrev XT (od : Option D) (cs : List Value) (stop : Int) (w : World) (B g : Nat) (v : Value) (L : Nat) (c : Code) (xs : List El) (W : World) : Prop :=
  c = .exit 0 ∧ InvT od cs stop w B g v xs.length (decide (L < xs.length)) W ∧ (xs.length : Int) = stop ∧ 1 ≤ xs.length
theorem held_put {S N B : Nat} {Wa W W' : World} (hS : S = B + 5) (hWa : B + 4 ≤ Wa.heap.size) (hsz : W'.heap.size = W.heap.size) (hk : ∀ k, k ≠ B + 2 → k ≠ B + 3 → W'.heap[k]? = W.heap[k]?) : Held S N Wa W W' :=
  ⟨Nat.le_of_eq hsz.symm, fun k _ h => hk k (by omega) (by omega)⟩
theorem size_set (W : World) (a : Addr) (v : Value) : (W.setCell a v).heap.size = W.heap.size := by simp [World.setCell]
theorem body_exit {od : Option D} {cs : List Value} {stop : Int} {w Wa W : World} {B g L N S : Nat} {v : Value} {pre : List El} {x : El} {a : Act}
    (hI : InvT od cs stop w B g v pre.length (decide (L < pre.length)) W) (hg : g < B) (hw : w.heap.size + 2 ≤ B) (hS : S = B + 5) (hWa : B + 4 ≤ Wa.heap.size) (hlt : pre.length < L) (q : (pre.length : Int) + 1 = stop) :
    postT S N (IT od cs stop w B g v L) (XT od cs stop w B g v L) (pre ++ [x]) Wa W (.exit 0) a (W.setCell ⟨B + 2, 0, none⟩ (.int .i64 ((pre.length : Int) + 1))).drew := by
  refine ⟨held_put hS hWa (size_set _ _ _) (fun k h1 h2 => Below.heap_setCell _ _ _ _ h1), rfl, ?_, by simp; exact q, by simp⟩
  have e : decide (L < (pre ++ [x]).length) = decide (L < pre.length) := by rw [decide_eq_false (by simp; omega), decide_eq_false (by omega)]
  rw [e]
  exact (hI.count (m' := (pre ++ [x]).length) _ (by simp) hg hw).drew
theorem body_go {od : Option D} {cs : List Value} {stop : Int} {w Wa W : World} {B g L N S : Nat} {v : Value} {pre : List El} {x : El} {a : Act}
    (hI : InvT od cs stop w B g v pre.length (decide (L < pre.length)) W) (hg : g < B) (hw : w.heap.size + 2 ≤ B) (hS : S = B + 5) (hWa : B + 4 ≤ Wa.heap.size) (hlt : pre.length < L) (hM : ∀ m : Nat, 1 ≤ m → m ≤ pre.length → (m : Int) ≠ stop) (q : ¬ (pre.length : Int) + 1 = stop) :
    postT S N (IT od cs stop w B g v L) (XT od cs stop w B g v L) (pre ++ [x]) Wa W .normal a (W.setCell ⟨B + 2, 0, none⟩ (.int .i64 ((pre.length : Int) + 1))).drew := by
  refine ⟨held_put hS hWa (size_set _ _ _) (fun k h1 h2 => Below.heap_setCell _ _ _ _ h1), ?_, ?_⟩
  · have e : decide (L < (pre ++ [x]).length) = decide (L < pre.length) := by rw [decide_eq_false (by simp; omega), decide_eq_false (by omega)]
    rw [e]
    exact (hI.count (m' := (pre ++ [x]).length) _ (by simp) hg hw).drew
  · intro m h1 h2
    simp at h2
    by_cases hm : m ≤ pre.length
    · exact hM m h1 hm
    · have : m = pre.length + 1 := by omega
      subst this; intro e; exact q (by rw [← e]; simp)
theorem body_exit2 {od : Option D} {cs : List Value} {stop : Int} {w Wa W : World} {B g L N S : Nat} {v : Value} {pre : List El} {x : El} {a : Act}
    (hI : InvT od cs stop w B g v pre.length (decide (L < pre.length)) W) (hg : g < B) (hw : w.heap.size + 2 ≤ B) (hS : S = B + 5) (hWa : B + 4 ≤ Wa.heap.size) (hlt : pre.length = L) (q : (pre.length : Int) + 1 = stop) :
    postT S N (IT od cs stop w B g v L) (XT od cs stop w B g v L) (pre ++ [x]) Wa W (.exit 0) a ((W.setCell ⟨B + 3, 0, none⟩ (.bool true)).setCell ⟨B + 2, 0, none⟩ (.int .i64 ((pre.length : Int) + 1))) := by
  refine ⟨held_put hS hWa (by rw [size_set, size_set]) (fun k h1 h2 => (Below.heap_setCell _ _ _ _ h1).trans (Below.heap_setCell _ _ _ _ h2)), rfl, ?_, by simp; exact q, by simp⟩
  have e : decide (L < (pre ++ [x]).length) = true := by rw [decide_eq_true]; simp; omega
  rw [e]
  exact (hI.wrong hg hw).count (m' := (pre ++ [x]).length) _ (by simp) hg hw
theorem body_go2 {od : Option D} {cs : List Value} {stop : Int} {w Wa W : World} {B g L N S : Nat} {v : Value} {pre : List El} {x : El} {a : Act}
    (hI : InvT od cs stop w B g v pre.length (decide (L < pre.length)) W) (hg : g < B) (hw : w.heap.size + 2 ≤ B) (hS : S = B + 5) (hWa : B + 4 ≤ Wa.heap.size) (hlt : pre.length = L) (hM : ∀ m : Nat, 1 ≤ m → m ≤ pre.length → (m : Int) ≠ stop) (q : ¬ (pre.length : Int) + 1 = stop) :
    postT S N (IT od cs stop w B g v L) (XT od cs stop w B g v L) (pre ++ [x]) Wa W .normal a ((W.setCell ⟨B + 3, 0, none⟩ (.bool true)).setCell ⟨B + 2, 0, none⟩ (.int .i64 ((pre.length : Int) + 1))) := by
  refine ⟨held_put hS hWa (by rw [size_set, size_set]) (fun k h1 h2 => (Below.heap_setCell _ _ _ _ h1).trans (Below.heap_setCell _ _ _ _ h2)), ?_, ?_⟩
  · have e : decide (L < (pre ++ [x]).length) = true := by rw [decide_eq_true]; simp; omega
    rw [e]
    exact (hI.wrong hg hw).count (m' := (pre ++ [x]).length) _ (by simp) hg hw
  · intro m h1 h2
    simp at h2
    by_cases hm : m ≤ pre.length
    · exact hM m h1 hm
    · have : m = pre.length + 1 := by omega
      subst this; intro e; exact q (by rw [← e]; simp)
theorem inv_begin {s : ByteArray} {stop : Int} {od : Option D} {cs : List Value} {w w1 w2 : World} {g L cap : Nat} {ao : Option Addr}
    (HB1 : Below ((w.alloc (.cells #[.int .i64 stop] 3)).alloc (.cells #[.bool false] 4)).heap.size ((w.alloc (.cells #[.int .i64 stop] 3)).alloc (.cells #[.bool false] 4)) w1) (HB2 : Below w1.heap.size w1 w2) (hg : g < w2.heap.size) (hrow : ∀ j u, cs[j]? = some u → w2.cell? ⟨g, j, none⟩ = some u) :
    InvT od cs stop w w2.heap.size g (.slice ao L cap) 0 (decide (L < 0))
      (((((w2.alloc (.cells #[.slice ao L cap] 23)).alloc (.cells #[.int .i64 (dSt od), .int .i64 (dWh od), .int .i64 (dLn od), .int .i64 (dCl od)] 28)).alloc (.cells #[.int .i64 0] 3)).alloc (.cells #[.bool false] 4)).alloc (.cells #[.string s] 9)) := by
  obtain ⟨o1, ho1⟩ : ∃ o1 : Obj, o1 = .cells #[.slice ao L cap] 23 := ⟨_, rfl⟩
  obtain ⟨o2, ho2⟩ : ∃ o2 : Obj, o2 = .cells #[.int .i64 (dSt od), .int .i64 (dWh od), .int .i64 (dLn od), .int .i64 (dCl od)] 28 := ⟨_, rfl⟩
  obtain ⟨o3, ho3⟩ : ∃ o3 : Obj, o3 = .cells #[.int .i64 0] 3 := ⟨_, rfl⟩
  obtain ⟨o4, ho4⟩ : ∃ o4 : Obj, o4 = .cells #[.bool false] 4 := ⟨_, rfl⟩
  obtain ⟨o5, ho5⟩ : ∃ o5 : Obj, o5 = .cells #[.string s] 9 := ⟨_, rfl⟩
  rw [← ho1, ← ho2, ← ho3, ← ho4, ← ho5]
  have s1 := HB1.size
  have s2 := HB2.size
  simp only [World.size_alloc] at s1
  have e0 := heap_alloc_new w2 o1
  have e1 := heap_alloc_new (w2.alloc o1) o2
  have e2 := heap_alloc_new ((w2.alloc o1).alloc o2) o3
  have e3 := heap_alloc_new (((w2.alloc o1).alloc o2).alloc o3) o4
  simp only [World.size_alloc] at e1 e2 e3
  have up5 : ∀ k, k < w2.heap.size + 4 → (((((w2.alloc o1).alloc o2).alloc o3).alloc o4).alloc o5).heap[k]? = ((((w2.alloc o1).alloc o2).alloc o3).alloc o4).heap[k]? := fun k hk => Below.heap_alloc _ _ _ (by simp only [World.size_alloc]; omega)
  have up4 : ∀ k, k < w2.heap.size + 3 → ((((w2.alloc o1).alloc o2).alloc o3).alloc o4).heap[k]? = (((w2.alloc o1).alloc o2).alloc o3).heap[k]? := fun k hk => Below.heap_alloc _ _ _ (by simp only [World.size_alloc]; omega)
  have up3 : ∀ k, k < w2.heap.size + 2 → (((w2.alloc o1).alloc o2).alloc o3).heap[k]? = ((w2.alloc o1).alloc o2).heap[k]? := fun k hk => Below.heap_alloc _ _ _ (by simp only [World.size_alloc]; omega)
  have up2 : ∀ k, k < w2.heap.size + 1 → ((w2.alloc o1).alloc o2).heap[k]? = (w2.alloc o1).heap[k]? := fun k hk => Below.heap_alloc _ _ _ (by simp only [World.size_alloc]; omega)
  have up1 : ∀ k, k < w2.heap.size → (w2.alloc o1).heap[k]? = w2.heap[k]? := fun k hk => Below.heap_alloc _ _ _ hk
  have up : ∀ k, k < w2.heap.size → (((((w2.alloc o1).alloc o2).alloc o3).alloc o4).alloc o5).heap[k]? = w2.heap[k]? := fun k hk => by
    rw [up5 k (by omega), up4 k (by omega), up3 k (by omega), up2 k (by omega), up1 k hk]
  have n0 := heap_alloc_new w (.cells #[.int .i64 stop] 3)
  have n1 := heap_alloc_new (w.alloc (.cells #[.int .i64 stop] 3)) (.cells #[.bool false] 4)
  simp only [World.size_alloc] at n1
  refine ⟨?_, ?_, ?_, ?_, ?_, ?_, fun j u hu => cell_of_heap (up g hg) (hrow j u hu), ?_⟩
  · rw [up _ (by omega), HB2.block _ (by omega), HB1.block _ (by simp only [World.size_alloc]; omega), Below.heap_alloc _ _ _ (by simp only [World.size_alloc]; omega)]; exact n0
  · rw [up _ (by omega), HB2.block _ (by omega), HB1.block _ (by simp only [World.size_alloc]; omega)]; exact n1
  · rw [up5 _ (by omega), up4 _ (by omega), up3 _ (by omega), up2 _ (by omega), e0, ho1]
  · rw [up5 _ (by omega), up4 _ (by omega), up3 _ (by omega), e1, ho2]
  · rw [up5 _ (by omega), up4 _ (by omega), e2, ho3]; rfl
  · rw [up5 _ (by omega), e3, ho4]; rfl
  · have b1 : Below w.heap.size w w1 := (((Below.refl w.heap.size w).alloc (Nat.le_refl _) _).alloc (by simp only [World.size_alloc]; omega) _).trans (HB1.mono (by simp only [World.size_alloc]; omega))
    have b2 := b1.trans (HB2.mono (by omega))
    exact ((((b2.alloc (by omega) _).alloc (by simp only [World.size_alloc]; omega) _).alloc (by simp only [World.size_alloc]; omega) _).alloc (by simp only [World.size_alloc]; omega) _).alloc (by simp only [World.size_alloc]; omega) _
theorem res_each {x : Array Value} {b : Nat} {W : World} (h4 : x[4]?.getD undef = .pointer (some ⟨b, 0, none⟩)) (hb : W.heap[b]? = some (.cells #[.bool true] 4 (0, 0))) :
    (results Try.f3 x).run Try.prog W = .ok (.bool true) W := by
  obtain ⟨c0, -⟩ := blk1 hb
  simp [results, Try.results3, go_sem, h4, c0]
theorem leave_each {n S b : Nat} {Q : Ending → World → Prop} {W : World} {tm : Array Value} (hD : W.heap[S]? = some (.deferred (some []))) (h4 : tm[4]?.getD undef = .pointer (some ⟨b, 0, none⟩))
    (hb : W.heap[b]? = some (.cells #[.bool true] 4 (0, 0))) (e : b ≠ S) (hQ : Q (.returned (.bool true)) (W.putObj S (.deferred none))) :
    bodyPostM Fence.wide n Try.prog Try.f3 Q Exit.ret { tmps := tm, defers := [{ target := .collected S, args := #[] }] } W :=
  ⟨by simp, .inl ⟨_, _, rfl, run_takeDeferred hD, _, res_each h4 ((World.putObj_heap_other e).trans hb), hQ⟩⟩
theorem end_post {w W W1 : World} {S : Nat} (hb : Below w.heap.size w W) (h1 : Below W.heap.size W W1) (hS : w.heap.size ≤ S) : Below w.heap.size w ((W1.setCell ⟨w.heap.size + 1, 0, none⟩ (.bool true)).putObj S (.deferred none)) :=
  below_put ((hb.trans (h1.mono hb.size)).setCell (by show w.heap.size ≤ w.heap.size + 1; omega) _) _ hS
set_option maxRecDepth 100000 in
set_option maxHeartbeats 8000000 in
theorem each_fenced (n : Nat) (hn : 3 ≤ n) (s : ByteArray) (stop : Int) (w : World) (hs : s.size ≤ 3000) :
    CallsIn Fence.wide n Try.prog 3 #[.string s, .int .i64 stop] w fun e w' => e = .returned (.bool true) ∧ Below w.heap.size w w' := by
  obtain ⟨Q, HQ⟩ : ∃ Q : Ending → World → Prop, Hid (Q = fun e w' => e = .returned (.bool true) ∧ Below w.heap.size w w') := ⟨_, hid rfl⟩
  rw [← HQ.out]
  have h1 : 1 ≤ n := by omega
  have hs1 : ¬ (3000 : Int) < (s.size : Int) := by omega
  obtain ⟨L, HL⟩ : ∃ L, Hid (L = (scanL s.data.toList).1.length) := ⟨_, hid rfl⟩
  obtain ⟨od, Hod⟩ : ∃ od, Hid (od = (scanL s.data.toList).2) := ⟨_, hid rfl⟩
  have HLB := hid (show L ≤ 3002 from by
    have := eachL_len s.data.toList (s.data.toList.length + 1) 0 1 0
    rw [show eachL s.data.toList (s.data.toList.length + 1) 0 1 0 = scanL s.data.toList from rfl, elems_len, ← Lib.size_eq] at this
    rw [HL.out]; omega)
  refine callsIn_of_wp_marks Try.func3 rfl trivial ?_ rfl
  simp only [Try.ntmps3, List.size_toArray, List.length_cons, List.length_nil, Nat.reduceAdd, Nat.reduceSub, Array.replicate_succ, Array.replicate_zero, List.push_toArray, List.append_toArray, List.nil_append, List.cons_append]
  gi_wp2_with (first
    | (refine ⟨trivial, ?_⟩; gi_at_call 5; refine (alive_in (n - 1) _).mono ?_; rintro e w1 ⟨rfl, HB1⟩)
    | (refine ⟨trivial, ?_⟩; gi_at_call 6; refine (rscan_in (n - 1) s _ (by omega) (by have := HB1.out.size; simp only [World.size_alloc] at this; omega) HL.out Hod.out).mono ?_; rintro e w2 ⟨ao, cap, g, rfl, hcap, hmax, HB2, HG⟩)
    | (refine ⟨trivial, ?_⟩; gi_at_call 7; refine (each0_in (n - 1) s _).mono ?_; rintro e w' ⟨rfl, rfl⟩))
  obtain ⟨B, HBe⟩ : ∃ B, Hid (B = w2.heap.size) := ⟨_, hid rfl⟩
  have HWB := hid (show w.heap.size + 2 ≤ B from by have := HB1.out.size; have := HB2.out.size; simp only [World.size_alloc] at *; rw [HBe.out]; omega)
  obtain ⟨cs, Hcs⟩ : ∃ cs, Hid (cs = ((scanL s.data.toList).1.map elT).flatMap tokCells) := ⟨_, hid rfl⟩
  have HI0 := hid (inv_begin (s := s) (stop := stop) (od := od) (cs := cs) (g := g) (ao := ao) (L := L) (cap := cap) HB1.out HB2.out HG.out.1 (by rw [Hcs.out]; exact HG.out.2.2))
  rw [← HBe.out] at HI0 ⊢
  have HG' := hid (show g < B from by rw [HBe.out]; exact HG.out.1)
  have HAO := hid HG.out.2.1
  obtain ⟨W0, hW0⟩ : ∃ W0, (((((w2.alloc (.cells #[.slice ao L cap] 23)).alloc (.cells #[.int .i64 (dSt od), .int .i64 (dWh od), .int .i64 (dLn od), .int .i64 (dCl od)] 28)).alloc (.cells #[.int .i64 0] 3)).alloc (.cells #[.bool false] 4)).alloc (.cells #[.string s] 9)) = W0 := ⟨_, rfl⟩
  rw [hW0] at HI0 ⊢
  have HS0 := hid (show W0.heap.size = B + 5 from by rw [← hW0, HBe.out]; simp)
  have HSRC := hid (show W0.cell? ⟨B + 4, 0, none⟩ = some (.string s) from by
    rw [← hW0, HBe.out]
    have := (blk1 (heap_alloc_new ((((w2.alloc (.cells #[.slice ao L cap] 23)).alloc (.cells #[.int .i64 (dSt od), .int .i64 (dWh od), .int .i64 (dLn od), .int .i64 (dCl od)] 28)).alloc (.cells #[.int .i64 0] 3)).alloc (.cells #[.bool false] 4)) (.cells #[.string s] 9))).1
    simpa using this)
  clear hW0 HG HB2 HB1 HBe
  refine range_tokens n (by omega) (B + 1 + 1 + 1 + 1) s (by omega) rfl HSRC.out rfl
    (fun pre W => InvT od cs stop w B g (.slice ao L cap) pre.length (decide (L < pre.length)) W ∧ ∀ m : Nat, 1 ≤ m → m ≤ pre.length → (m : Int) ≠ stop)
    (fun c xs W => c = .exit 0 ∧ InvT od cs stop w B g (.slice ao L cap) xs.length (decide (L < xs.length)) W ∧ (xs.length : Int) = stop ∧ 1 ≤ xs.length)
    (fun pre A C h hN => ⟨h.1.near hN (by rw [HS0.out]; omega) HG'.out HWB.out, h.2⟩) (fun c pre A C h hN => ⟨h.1, h.2.1.near hN (by rw [HS0.out]; omega) HG'.out HWB.out, h.2.2⟩) ?h0 tokObj diagObj
    (fun x N => { tmps := #[.string s, .int .i64 stop, undef, .pointer (some ⟨w.heap.size, 0, none⟩), .pointer (some ⟨w.heap.size + 1, 0, none⟩), .pointer (some ⟨B, 0, none⟩), .pointer (some ⟨B + 1, 0, none⟩), .pointer (some ⟨B + 1 + 1, 0, none⟩), .pointer (some ⟨B + 1 + 1 + 1, 0, none⟩), .pointer (some ⟨N, 0, none⟩), .pointer (some ⟨N + 1, 0, none⟩), undef, .bool true, .bool false, .string s, .int .i64 s.size, .bool (decide (3000 < (s.size : Int))), undef,
      .tuple #[.slice ao L cap, .agg #[.int .i64 (dSt od), .int .i64 (dWh od), .int .i64 (dLn od), .int .i64 (dCl od)]], .string s, .tuple #[.slice ao L cap, .agg #[.int .i64 (dSt od), .int .i64 (dWh od), .int .i64 (dLn od), .int .i64 (dCl od)]], .slice ao L cap, .agg #[.int .i64 (dSt od), .int .i64 (dWh od), .int .i64 (dLn od), .int .i64 (dCl od)], .string s, .func (.func 12) #[] #[.pointer (some ⟨B + 1 + 1 + 1 + 1, 0, none⟩)], tokV x.kind x.tx x.num x.line x.col, diagV x.st x.wh x.dl x.dc, undef, undef, undef, undef, undef, undef, undef, undef, undef, undef, undef, undef, undef, undef, undef, undef, undef, undef, undef, undef, undef, undef, undef, undef, undef, undef, undef, undef, undef, undef, undef, undef, undef, undef, undef, undef, undef, undef, undef, undef, undef, undef, undef, undef, undef, undef, undef, undef, undef, undef, undef, undef, undef, undef, undef, undef, undef, undef, undef, undef, undef], defers := [] }) ?assign ?body ?done ?stop
  case h0 => exact ⟨HI0.out, fun m h1 h2 => by simp at h2; omega⟩
  case assign =>
    intro l x W K hK
    gi_wp2
    exact hK
  case body =>
    intro l pre x rest Wa W N hel hIa hN hWa hN3 hsz hx0 hx1
    have hI := hIa.1.near hN (by rw [HS0.out]; omega) HG'.out HWB.out
    have HI := hid hI
    have HM := hid hIa.2
    have hN3' : B + 8 ≤ N := by have := HS0.out; omega
    have HWa := hid (show B + 4 ≤ Wa.heap.size from by have := (Array.getElem?_eq_some_iff.1 hIa.1.b5).1; omega)
    clear hIa hN hN3
    obtain ⟨p0, p1⟩ := blk1 hI.b0
    obtain ⟨q0, q1⟩ := blk1 hI.b4
    obtain ⟨r0, r1⟩ := blk1 hI.b5
    obtain ⟨v0, v1⟩ := blk1 hI.b2
    clear hI
    rcases elems_get2 hel with ⟨hlt, t, ht, rfl⟩ | ⟨heq, rfl, d, hd, rfl⟩
    · have hlt2 : pre.length < L := by rw [HL.out]; exact hlt
      obtain rfl := HAO.out (by omega)
      have hwr : decide (L < pre.length) = false := decide_eq_false (by omega)
      rw [hwr] at r0
      have hlt3 : (pre.length : Int) < (L : Int) := by omega
      have hcell : ∀ j u, j < 5 → (tokCells (elT t))[j]? = some u → W.cell? ⟨g, pre.length * 5 + j, none⟩ = some u := fun j u hj hu => HI.out.row _ _ (by rw [Hcs.out, flat_get _ _ _ (elT t) (by rw [List.getElem?_map, ht]; rfl) hj]; exact hu)
      have c0 : W.cell? ⟨g, pre.length * 5, none⟩ = some (.int .i64 (elT t).kind) := hcell 0 _ (by omega) rfl
      have c1 := hcell 1 _ (by omega) rfl
      have c2 := hcell 2 _ (by omega) rfl
      have c3 := hcell 3 _ (by omega) rfl
      have c4 := hcell 4 _ (by omega) rfl
      obtain ⟨⟨t0, t1, t2, t3, t4⟩, -⟩ := blk5 hx0
      have hx1' : W.heap[N + 1]? = some (.cells #[.int .i64 0, .int .i64 0, .int .i64 0, .int .i64 0] 28 (0, 0)) := hx1
      obtain ⟨⟨d0, d1, d2, d3⟩, -⟩ := blk4 hx1'
      clear hx0 hx1 hx1' hcell hwr hel ht hlt
      gi_wp2
      have hmx : Try.prog.follows .mixedOrders = true := by kernel_rfl
      have hls : Try.prog.follows .lateStores = true := by kernel_rfl
      have hne1 : ¬ w.heap.size = B + 1 + 1 := by have := HWB.out; omega
      have hne2 : ¬ B + 1 + 1 = w.heap.size := by have := HWB.out; omega
      apply wpIn_at
      · gi_region
        all_goals exact ⟨rfl, rfl, rfl⟩
      gi_wp2
      · have q : (pre.length : Int) + 1 = stop := q_t (by assumption)
        exact body_exit HI.out HG'.out HWB.out HS0.out HWa.out hlt2 q
      · have q : ¬ (pre.length : Int) + 1 = stop := q_f (by assumption)
        exact body_go HI.out HG'.out HWB.out HS0.out HWa.out hlt2 HM.out q
    · have heq2 : pre.length = L := by rw [HL.out]; exact heq
      have HEQ := hid heq2
      have hlb : (pre.length : Int) ≤ 3002 := by have := HLB.out; omega
      have hwr : decide (L < pre.length) = false := decide_eq_false (by omega)
      rw [hwr] at r0
      have hf := eachL_fault _ _ _ _ _ d hd
      have hod : od = some d := by rw [Hod.out]; exact hd
      have heq3 : ¬ (pre.length : Int) < (L : Int) := by omega
      have heq4 : ¬ (L : Int) < (pre.length : Int) := by omega
      obtain ⟨F, HF⟩ : ∃ F : Nat, Hid (F = d.fault) := ⟨_, hid rfl⟩
      have hf0 : ((F : Int) == 0) = false := by rw [HF.out]; rcases hf with e | e <;> rw [e] <;> rfl
      obtain ⟨LN, HLN⟩ : ∃ F : Nat, Hid (F = d.line) := ⟨_, hid rfl⟩
      obtain ⟨CL, HCL⟩ : ∃ F : Nat, Hid (F = d.col) := ⟨_, hid rfl⟩
      have hb3 : W.heap[B + 1]? = some (.cells #[.int .i64 1, .int .i64 F, .int .i64 LN, .int .i64 CL] 28 (0, 0)) := by
        have := HI.out.b3; rw [hod] at this; rw [HF.out, HLN.out, HCL.out]; exact this
      obtain ⟨⟨e0, e1, e2, e3⟩, -⟩ := blk4 hb3
      have hx0' : W.heap[N]? = some (.cells #[.int .i64 0, .string ⟨#[]⟩, .int .i64 0, .int .i64 0, .int .i64 0] 35 (0, 0)) := hx0
      obtain ⟨⟨t0, t1, t2, t3, t4⟩, -⟩ := blk5 hx0'
      have hx1' : W.heap[N + 1]? = some (.cells #[.int .i64 1, .int .i64 F, .int .i64 LN, .int .i64 CL] 28 (0, 0)) := by rw [HF.out, HLN.out, HCL.out]; exact hx1
      obtain ⟨⟨d0, d1, d2, d3⟩, -⟩ := blk4 hx1'
      have hne1 : ¬ w.heap.size = B + 1 + 1 := by have := HWB.out; omega
      have hne2 : ¬ B + 1 + 1 = w.heap.size := by have := HWB.out; omega
      have hne3 : ¬ w.heap.size = B + 1 + 1 + 1 := by have := HWB.out; omega
      have hne4 : ¬ B + 1 + 1 + 1 = w.heap.size := by have := HWB.out; omega
      clear hx0 hx1 hx0' hx1' hwr hel hf hod hb3 heq heq2
      gi_wp2
      · have q : (pre.length : Int) + 1 = stop := q_t (by assumption)
        exact body_exit2 HI.out HG'.out HWB.out HS0.out HWa.out HEQ.out q
      · have q : ¬ (pre.length : Int) + 1 = stop := q_f (by assumption)
        exact body_go2 HI.out HG'.out HWB.out HS0.out HWa.out HEQ.out HM.out q
  case done =>
    intro W hI hD
    obtain ⟨E, HE⟩ : ∃ E, Hid (E = (elems (scanL s.data.toList)).length) := ⟨_, hid rfl⟩
    rw [← HE.out] at hI
    obtain ⟨hI, hM⟩ := hI
    have hEL : E = L + dSt od := by rw [HE.out, elems_len, HL.out, Hod.out]
    rw [HS0.out] at hD ⊢
    have HI := hid hI
    have HD := hid hD
    have HLB' := HLB.out
    obtain ⟨p0, p1⟩ := blk1 hI.b0
    obtain ⟨q0, q1⟩ := blk1 hI.b4
    obtain ⟨v0, v1⟩ := blk1 hI.b2
    obtain ⟨⟨e0, e1, e2, e3⟩, -⟩ := blk4 hI.b3
    have hst : stop ≤ 0 ∨ (E : Int) < stop := by
      by_cases h : stop ≤ 0
      · exact .inl h
      · refine .inr (Int.not_le.1 fun h2 => hM stop.toNat (by omega) (by omega) (by omega))
    cases od with
    | none =>
      have hEL' : E = L := by simpa [dSt] using hEL
      have e1' : W.cell? ⟨B + 1, 1, none⟩ = some (.int .i64 0) := e1
      clear hI hD hM hEL e0 e1 e2 e3
      subst hEL'
      rcases hst with h0 | h0
      · have h0' : ¬ (0 : Int) < stop := by omega
        gi_wp2_with (refine ⟨trivial, ?_⟩; gi_at_call 5; refine (alive_in (n - 1) _).mono ?_; rintro e w3 ⟨rfl, HB3⟩; have HR3 := hid (old_block HB3.out (Array.getElem?_eq_some_iff.1 HI.out.b1).1 HI.out.b1); have HD3 := hid (old_block HB3.out (Array.getElem?_eq_some_iff.1 HD.out).1 HD.out); obtain ⟨r0, r1⟩ := blk1 HR3.out)
        refine leave_each ((Below.heap_setCell _ _ _ _ (by have := HWB.out; show B + 5 ≠ w.heap.size + 1; omega)).trans HD3.out) rfl (blk1_put HR3.out) (by have := HWB.out; omega) ?_
        rw [HQ.out]
        exact ⟨rfl, end_post HI.out.bel HB3.out (by have := HWB.out; omega)⟩
      · have h0' : (0 : Int) < stop := by omega
        have h0'' : ¬ stop < (E : Int) := by omega
        gi_wp2_with (refine ⟨trivial, ?_⟩; gi_at_call 5; refine (alive_in (n - 1) _).mono ?_; rintro e w3 ⟨rfl, HB3⟩; have HR3 := hid (old_block HB3.out (Array.getElem?_eq_some_iff.1 HI.out.b1).1 HI.out.b1); have HD3 := hid (old_block HB3.out (Array.getElem?_eq_some_iff.1 HD.out).1 HD.out); obtain ⟨r0, r1⟩ := blk1 HR3.out)
        refine leave_each ((Below.heap_setCell _ _ _ _ (by have := HWB.out; show B + 5 ≠ w.heap.size + 1; omega)).trans HD3.out) rfl (blk1_put HR3.out) (by have := HWB.out; omega) ?_
        rw [HQ.out]
        exact ⟨rfl, end_post HI.out.bel HB3.out (by have := HWB.out; omega)⟩
    | some d =>
      have hEL' : E = L + 1 := by simpa [dSt] using hEL
      have hf := eachL_fault _ _ _ _ _ d (Hod.out.symm)
      obtain ⟨F, HF⟩ : ∃ F : Nat, Hid (F = d.fault) := ⟨_, hid rfl⟩
      have hf0 : ((F : Int) != 0) = true := by rw [HF.out]; rcases hf with e | e <;> rw [e] <;> rfl
      have e1' : W.cell? ⟨B + 1, 1, none⟩ = some (.int .i64 F) := by rw [HF.out]; exact e1
      have q0' : W.cell? ⟨B + 2, 0, none⟩ = some (.int .i64 ((L : Int) + 1)) := by rw [q0, hEL']; rfl
      have hst' : stop ≤ 0 ∨ (L : Int) + 1 < stop := by omega
      clear hI hD hM hEL e0 e1 e2 e3 hf q0 hst hEL'
      rcases hst' with h0 | h0
      · have h0' : ¬ (0 : Int) < stop := by omega
        gi_wp2_with (refine ⟨trivial, ?_⟩; gi_at_call 5; refine (alive_in (n - 1) _).mono ?_; rintro e w3 ⟨rfl, HB3⟩; have HR3 := hid (old_block HB3.out (Array.getElem?_eq_some_iff.1 HI.out.b1).1 HI.out.b1); have HD3 := hid (old_block HB3.out (Array.getElem?_eq_some_iff.1 HD.out).1 HD.out); obtain ⟨r0, r1⟩ := blk1 HR3.out)
        refine leave_each ((Below.heap_setCell _ _ _ _ (by have := HWB.out; show B + 5 ≠ w.heap.size + 1; omega)).trans HD3.out) rfl (blk1_put HR3.out) (by have := HWB.out; omega) ?_
        rw [HQ.out]
        exact ⟨rfl, end_post HI.out.bel HB3.out (by have := HWB.out; omega)⟩
      · have h0' : (0 : Int) < stop := by omega
        have h0'' : ¬ stop < (L : Int) + 1 := by omega
        gi_wp2_with (refine ⟨trivial, ?_⟩; gi_at_call 5; refine (alive_in (n - 1) _).mono ?_; rintro e w3 ⟨rfl, HB3⟩; have HR3 := hid (old_block HB3.out (Array.getElem?_eq_some_iff.1 HI.out.b1).1 HI.out.b1); have HD3 := hid (old_block HB3.out (Array.getElem?_eq_some_iff.1 HD.out).1 HD.out); obtain ⟨r0, r1⟩ := blk1 HR3.out)
        refine leave_each ((Below.heap_setCell _ _ _ _ (by have := HWB.out; show B + 5 ≠ w.heap.size + 1; omega)).trans HD3.out) rfl (blk1_put HR3.out) (by have := HWB.out; omega) ?_
        rw [HQ.out]
        exact ⟨rfl, end_post HI.out.bel HB3.out (by have := HWB.out; omega)⟩
  case stop =>
    intro c pre x rest W hel hX hD
    obtain ⟨rfl, hI, hst, hpos⟩ := hX
    have hKE : (pre ++ [x]).length ≤ L + dSt od := by
      have := congrArg List.length hel
      rw [elems_len] at this
      rw [HL.out, Hod.out, this]; simp
    obtain ⟨K, HK⟩ : ∃ K, Hid (K = (pre ++ [x]).length) := ⟨_, hid rfl⟩
    rw [← HK.out] at hI hst hpos hKE
    rw [HS0.out] at hD ⊢
    have HI := hid hI
    have HD := hid hD
    have HLB' := HLB.out
    have hst' : stop = (K : Int) := hst.symm
    clear hst hel
    obtain ⟨p0, p1⟩ := blk1 hI.b0
    obtain ⟨q0, q1⟩ := blk1 hI.b4
    obtain ⟨v0, v1⟩ := blk1 hI.b2
    obtain ⟨⟨e0, e1, e2, e3⟩, -⟩ := blk4 hI.b3
    rw [hst'] at p0
    have hK0 : (0 : Int) < (K : Int) := by omega
    cases od with
    | none =>
      have hKE' : K ≤ L := by simpa [dSt] using hKE
      have e1' : W.cell? ⟨B + 1, 1, none⟩ = some (.int .i64 0) := e1
      clear hI hD e0 e1 e2 e3 hKE hpos
      have HST := hid hst'
      clear hst'
      by_cases hlt : K < L
      · have hlt' : (K : Int) < (L : Int) := by omega
        gi_wp2_with (refine ⟨trivial, ?_⟩; gi_at_call 5; refine (alive_in (n - 1) _).mono ?_; rintro e w3 ⟨rfl, HB3⟩; have HR3 := hid (old_block HB3.out (Array.getElem?_eq_some_iff.1 HI.out.b1).1 HI.out.b1); have HD3 := hid (old_block HB3.out (Array.getElem?_eq_some_iff.1 HD.out).1 HD.out); obtain ⟨r0, r1⟩ := blk1 HR3.out)
        refine leave_each ((Below.heap_setCell _ _ _ _ (by have := HWB.out; show B + 5 ≠ w.heap.size + 1; omega)).trans HD3.out) rfl (blk1_put HR3.out) (by have := HWB.out; omega) ?_
        rw [HQ.out]
        exact ⟨rfl, end_post HI.out.bel HB3.out (by have := HWB.out; omega)⟩
      · have hlt' : ¬ (K : Int) < (L : Int) := by omega
        have hkl : K = L := by omega
        rw [hkl] at q0 p0 hK0 hlt'
        clear hkl hKE' hlt
        gi_wp2_with (refine ⟨trivial, ?_⟩; gi_at_call 5; refine (alive_in (n - 1) _).mono ?_; rintro e w3 ⟨rfl, HB3⟩; have HR3 := hid (old_block HB3.out (Array.getElem?_eq_some_iff.1 HI.out.b1).1 HI.out.b1); have HD3 := hid (old_block HB3.out (Array.getElem?_eq_some_iff.1 HD.out).1 HD.out); obtain ⟨r0, r1⟩ := blk1 HR3.out)
        refine leave_each ((Below.heap_setCell _ _ _ _ (by have := HWB.out; show B + 5 ≠ w.heap.size + 1; omega)).trans HD3.out) rfl (blk1_put HR3.out) (by have := HWB.out; omega) ?_
        rw [HQ.out]
        exact ⟨rfl, end_post HI.out.bel HB3.out (by have := HWB.out; omega)⟩
    | some d =>
      have hKE' : K ≤ L + 1 := by simpa [dSt] using hKE
      have hf := eachL_fault _ _ _ _ _ d (Hod.out.symm)
      obtain ⟨F, HF⟩ : ∃ F : Nat, Hid (F = d.fault) := ⟨_, hid rfl⟩
      have hf0 : ((F : Int) != 0) = true := by rw [HF.out]; rcases hf with e | e <;> rw [e] <;> rfl
      have e1' : W.cell? ⟨B + 1, 1, none⟩ = some (.int .i64 F) := by rw [HF.out]; exact e1
      clear hI hD e0 e1 e2 e3 hKE hpos hf
      have HST := hid hst'
      clear hst'
      by_cases hlt : K < L + 1
      · have hlt' : (K : Int) < (L : Int) + 1 := by omega
        gi_wp2_with (refine ⟨trivial, ?_⟩; gi_at_call 5; refine (alive_in (n - 1) _).mono ?_; rintro e w3 ⟨rfl, HB3⟩; have HR3 := hid (old_block HB3.out (Array.getElem?_eq_some_iff.1 HI.out.b1).1 HI.out.b1); have HD3 := hid (old_block HB3.out (Array.getElem?_eq_some_iff.1 HD.out).1 HD.out); obtain ⟨r0, r1⟩ := blk1 HR3.out)
        refine leave_each ((Below.heap_setCell _ _ _ _ (by have := HWB.out; show B + 5 ≠ w.heap.size + 1; omega)).trans HD3.out) rfl (blk1_put HR3.out) (by have := HWB.out; omega) ?_
        rw [HQ.out]
        exact ⟨rfl, end_post HI.out.bel HB3.out (by have := HWB.out; omega)⟩
      · have hlt' : ¬ (K : Int) < (L : Int) + 1 := by omega
        have hkl : (K : Int) = (L : Int) + 1 := by omega
        rw [hkl] at q0 p0 hK0 hlt'
        clear hkl hKE' hlt
        gi_wp2_with (refine ⟨trivial, ?_⟩; gi_at_call 5; refine (alive_in (n - 1) _).mono ?_; rintro e w3 ⟨rfl, HB3⟩; have HR3 := hid (old_block HB3.out (Array.getElem?_eq_some_iff.1 HI.out.b1).1 HI.out.b1); have HD3 := hid (old_block HB3.out (Array.getElem?_eq_some_iff.1 HD.out).1 HD.out); obtain ⟨r0, r1⟩ := blk1 HR3.out)
        refine leave_each ((Below.heap_setCell _ _ _ _ (by have := HWB.out; show B + 5 ≠ w.heap.size + 1; omega)).trans HD3.out) rfl (blk1_put HR3.out) (by have := HWB.out; omega) ?_
        rw [HQ.out]
        exact ⟨rfl, end_post HI.out.bel HB3.out (by have := HWB.out; omega)⟩
set_option maxRecDepth 100000 in
set_option maxHeartbeats 8000000 in
theorem each_big (s : ByteArray) (stop : Int) (w : World) (hs : 3000 < s.size) :
    Calls Try.prog 3 #[.string s, .int .i64 stop] w fun e w' => e = .returned (.bool true) ∧ Below w.heap.size w w' := by
  have h1 : (3000 : Int) < (s.size : Int) := by omega
  have HA := hid (((Below.refl w.heap.size w).alloc (Nat.le_refl _) (.cells #[.int .i64 stop] 3)).alloc (by simp) (.cells #[.bool false] 4))
  have HR := hid (show ((w.alloc (.cells #[.int .i64 stop] 3)).alloc (.cells #[.bool false] 4)).heap[w.heap.size + 1]? = some (.cells #[.bool false] 4 (0, 0)) from by
    have := heap_alloc_new (w.alloc (.cells #[.int .i64 stop] 3)) (.cells #[.bool false] 4)
    rwa [World.size_alloc] at this)
  go_enter Try.func3, Try.ntmps3
  go_wp2_with (first
    | (go_at_call 5; have tok := HA; clear HA; refine (alive_i _).mono ?_; rintro e w1 ⟨rfl, HB1⟩; have HB1 := hid HB1; have HC := hid (tok.out.trans (HB1.out.mono (by simp only [World.size_alloc]; omega))); have HR1 := hid (old_block HB1.out (by simp only [World.size_alloc]; omega) HR.out); clear HR tok)
    | (go_at_call 5; have tok := HC; clear HC; refine (alive_i _).mono ?_; rintro e w2 ⟨rfl, HB2⟩; have HB2 := hid HB2; have HD := hid (tok.out.trans (HB2.out.mono tok.out.size)); have HR2 := hid (old_block HB2.out (Array.getElem?_eq_some_iff.1 HR1.out).1 HR1.out); obtain ⟨r0, r1⟩ := blk1 HR2.out; clear tok))
  refine bodyPost_ret (v := .bool true) (res_each rfl (blk1_put HR2.out)) rfl ?_
  exact ⟨rfl, HD.out.setCell (by show w.heap.size ≤ w.heap.size + 1; omega) _⟩
/-- **TokenEach returns true, and leaves what was as it was.** -/
theorem tokenEach_i (s : ByteArray) (stop : Int) (w : World) : Calls Try.prog 3 #[.string s, .int .i64 stop] w fun e w' => e = .returned (.bool true) ∧ Below w.heap.size w w' := by
  by_cases hs : 3000 < s.size
  · exact each_big s stop w hs
  · exact (callsIn_wide (n := 3)).1 (each_fenced 3 (Nat.le_refl _) s stop w (by omega))
end Go.Proofs.Ytfjbcnnidhgenaa
