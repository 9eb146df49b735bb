/- The reference of layer 1: Scan. Condition: at most 1000000 bytes. -/
import Derived.Test.YtfjbcnnidhgenaaTokRefG
namespace Go.Proofs.Ytfjbcnnidhgenaa
open Go.RowKit
set_option linter.unusedVariables false
set_option linter.unusedSimpArgs false
theorem one_i (s : ByteArray) (a : Nat) (w : World) (ha : a < s.size) (hs : s.size ≤ 2000000) :
    Calls Try.prog 11 #[.string s, .int .i64 a] w (OnePost w (readL (s.data.toList.drop a))) := by
  cases hl : lettI (s[a].toNat : Int)
  case true => rw [read_name ha hl]; exact oneA_i s a w ha hs hl
  case false =>
    cases hd : digI (s[a].toNat : Int)
    case true => rw [read_number ha hl hd]; exact oneB_i s a w ha hs hl hd
    case false => rw [read_sign ha hl hd]; exact oneC_i s a w ha hs hl hd
theorem one_t (s : ByteArray) (a : Nat) (w : World) (ha : a < s.size) (hs : s.size ≤ 2000000) {kind num size : Nat} {text : List UInt8} {tx : ByteArray} (htx : tx = ⟨⟨text⟩⟩) (hR : readL (s.data.toList.drop a) = .tok kind text num size) :
    Calls Try.prog 11 #[.string s, .int .i64 a] w fun e w' => e = .returned (.tuple #[tokV kind tx num 0 0, .int .i64 0]) ∧ Hid (Below w.heap.size w w') := by
  have := one_i s a w ha hs
  rw [hR] at this
  refine this.mono ?_
  rintro e w' ⟨hO, tx', ht, he⟩
  rw [mk_of ht, ← htx] at he
  exact ⟨he, hO⟩
theorem one_f (s : ByteArray) (a : Nat) (w : World) (ha : a < s.size) (hs : s.size ≤ 2000000) {f size : Nat} (hR : readL (s.data.toList.drop a) = .bad f size) :
    Calls Try.prog 11 #[.string s, .int .i64 a] w fun e w' => ∃ kind tx num, e = .returned (.tuple #[tokV kind tx num 0 0, .int .i64 f]) ∧ Hid (Below w.heap.size w w') := by
  have := one_i s a w ha hs
  rw [hR] at this
  refine this.mono ?_
  rintro e w' ⟨hO, kind, tx, num, he⟩
  exact ⟨kind, tx, num, he, hO⟩
theorem rskip_v (s : ByteArray) (a i : Nat) (x : Int) (w : World) (hx : x = a) (hi : i = skipP false s a) (ha : a ≤ s.size) (hs : s.size ≤ 2000000) :
    Calls Try.prog 9 #[.string s, .int .i64 x] w fun e w' => e = .returned (.int .i64 i) ∧ w' = w := by
  subst hx hi; exact rskip_i s a w ha hs
theorem rplace_v (s : ByteArray) (n : Nat) (x : Int) (w : World) (hx : x = n) (hn : n ≤ s.size) (hs : s.size ≤ 2000000) {l1 c1 : Nat} (hp : posL s.data.toList n = (l1, c1)) :
    Calls Try.prog 10 #[.string s, .int .i64 x] w fun e w' => e = .returned (.agg #[.int .i64 l1, .int .i64 c1]) ∧ Hid (Below w.heap.size w w') := by
  subst hx; exact rplace_i s n w hn hs hp
theorem row_below {A B : World} {base : Nat} {e : TypeId} {size n : Nat} {v : Value} {xs : List Value} (h : Below A.heap.size A B) (hr : A.ownsRow base e size v n xs) : B.ownsRow base e size v n xs := by
  refine ⟨hr.1, ?_⟩
  rcases hr.2 with q | ⟨g, cap, cur, hv, hb, hg, rest⟩
  · exact .inl q
  · exact .inr ⟨g, cap, cur, hv, hb, (h.block g (Array.getElem?_eq_some_iff.1 hg).1).trans hg, rest⟩
theorem row_low {A : World} {base base' : Nat} {e : TypeId} {size n : Nat} {v : Value} {xs : List Value} (hb' : base' ≤ base) (hr : A.ownsRow base e size v n xs) : A.ownsRow base' e size v n xs := by
  refine ⟨hr.1, ?_⟩
  rcases hr.2 with q | ⟨g, cap, cur, hv, hb, hg, rest⟩
  · exact .inl q
  · exact .inr ⟨g, cap, cur, hv, by omega, hg, rest⟩
abbrev diagOf : Option D → Value
  | none => diagV 0 0 0 0
  | some d => diagV 1 d.fault d.line d.col
/-- What the reference's Scan hands back: the tokens ahead of what is wrong, too. -/
def RScanPost (s : ByteArray) (w : World) (e : Ending) (w' : World) : Prop :=
  Below w.heap.size w w' ∧ ∃ v, e = .returned (.tuple #[v, diagOf (scanL s.data.toList).2]) ∧ w'.ownsRow w.heap.size 35 5 v (scanL s.data.toList).1.length (((scanL s.data.toList).1.map elT).flatMap tokCells)
theorem skipP_le (s : ByteArray) (a : Nat) (ha : a ≤ s.size) : a ≤ skipP false s a ∧ skipP false s a ≤ s.size := by
  have hb := skip_bd false (s.data.toList.drop a) a (a + 1) a (Nat.le_refl _) (Nat.le_refl _)
  rw [List.length_drop, ← Lib.size_eq] at hb
  unfold skipP
  rw [skip_fst false (s.data.toList.drop a) a 1 0 (a + 1) a]
  omega
theorem res_rscan {x : Array Value} {k3 : Nat} {v u0 u1 u2 u3 : Value} {W : World} (h2 : x[2]?.getD undef = v) (h3 : x[3]?.getD undef = .pointer (some ⟨k3, 0, none⟩)) (hb3 : W.heap[k3]? = some (.cells #[u0, u1, u2, u3] 28 (0, 0))) :
    (results Try.f6 x).run Try.prog W = .ok (.tuple #[v, .agg #[u0, u1, u2, u3]]) W := by
  obtain ⟨⟨d0, d1, d2, d3⟩, -⟩ := blk4 hb3
  simp [results, Try.results6, go_sem, h2, h3, d0, d1, d2, d3]
abbrev zero4 : Obj := .cells #[.int .i64 0, .int .i64 0, .int .i64 0, .int .i64 0] 28
theorem blk4_alloc {W : World} {k t : Nat} {v0 v1 v2 v3 : Value} (h : W.heap[k]? = some (.cells #[v0, v1, v2, v3] t (0, 0))) (o : Obj) :
    ((W.alloc o).cell? ⟨k, 0, none⟩ = some v0 ∧ (W.alloc o).cell? ⟨k, 1, none⟩ = some v1 ∧ (W.alloc o).cell? ⟨k, 2, none⟩ = some v2 ∧ (W.alloc o).cell? ⟨k, 3, none⟩ = some v3) ∧
    ((W.alloc o).frozen? ⟨k, 0, none⟩ = false ∧ (W.alloc o).frozen? ⟨k, 1, none⟩ = false ∧ (W.alloc o).frozen? ⟨k, 2, none⟩ = false ∧ (W.alloc o).frozen? ⟨k, 3, none⟩ = false) :=
  blk4 ((Below.heap_alloc W o k (Array.getElem?_eq_some_iff.1 h).1).trans h)
theorem blk2f_alloc {W : World} {k t : Nat} {v0 v1 : Value} (h : W.heap[k]? = some (.cells #[v0, v1] t (0, 0))) (o : Obj) :
    (W.alloc o).cell? ⟨k, 0, none⟩ = some v0 ∧ (W.alloc o).cell? ⟨k, 1, none⟩ = some v1 ∧ (W.alloc o).frozen? ⟨k, 0, none⟩ = false ∧ (W.alloc o).frozen? ⟨k, 1, none⟩ = false :=
  blk2f ((Below.heap_alloc W o k (Array.getElem?_eq_some_iff.1 h).1).trans h)
theorem row_at {A B : World} {base : Nat} {e : TypeId} {size n : Nat} {v : Value} {xs : List Value} (hk : ∀ k, base ≤ k → k < A.heap.size → B.heap[k]? = A.heap[k]?) (hr : A.ownsRow base e size v n xs) : B.ownsRow base e size v n xs := by
  refine ⟨hr.1, ?_⟩
  rcases hr.2 with q | ⟨g, cap, cur, hv, hb, hg, rest⟩
  · exact .inl q
  · exact .inr ⟨g, cap, cur, hv, hb, (hk g hb (Array.getElem?_eq_some_iff.1 hg).1).trans hg, rest⟩
abbrev put4 (W : World) (b : Nat) (u0 u1 u2 u3 : Value) : World := (((W.setCell ⟨b, 0, none⟩ u0).setCell ⟨b, 1, none⟩ u1).setCell ⟨b, 2, none⟩ u2).setCell ⟨b, 3, none⟩ u3
theorem put4_same {W : World} {b t : Nat} {c0 c1 c2 c3 : Value} (u0 u1 u2 u3 : Value) (h : W.heap[b]? = some (.cells #[c0, c1, c2, c3] t (0, 0))) : (put4 W b u0 u1 u2 u3).heap[b]? = some (.cells #[u0, u1, u2, u3] t (0, 0)) := by
  simp [put4, World.setCell, Array.getElem?_modify, h]
theorem put4_other (W : World) (b : Nat) (u0 u1 u2 u3 : Value) (k : Nat) (hk : k ≠ b) : (put4 W b u0 u1 u2 u3).heap[k]? = W.heap[k]? := by
  have q3 : ¬ b = k := fun e => hk e.symm
  simp [put4, World.setCell, Array.getElem?_modify, q3]
theorem put4_below {w W : World} {b : Nat} (h : Below b w W) (u0 u1 u2 u3 : Value) : Below b w (put4 W b u0 u1 u2 u3) :=
  (((h.setCell (p := ⟨b, 0, none⟩) (Nat.le_refl _) _).setCell (p := ⟨b, 1, none⟩) (Nat.le_refl _) _).setCell (p := ⟨b, 2, none⟩) (Nat.le_refl _) _).setCell (p := ⟨b, 3, none⟩) (Nat.le_refl _) _
theorem rscan_leave {s : ByteArray} {w W : World} {v : Value} {ts : List T} {d : Option D} {u0 u1 u2 u3 : Value} {P : Nat} (hP : w.heap.size < P) (hs : scanL s.data.toList = (ts, d)) (hB : Below w.heap.size w W) (hO : W.ownsRow P 35 5 v ts.length ((ts.map elT).flatMap tokCells))
    (hd : diagOf d = .agg #[u0, u1, u2, u3]) : RScanPost s w (.returned (.tuple #[v, .agg #[u0, u1, u2, u3]])) (put4 W w.heap.size u0 u1 u2 u3) := by
  refine ⟨put4_below hB _ _ _ _, v, ?_, ?_⟩
  · rw [hs]; simp only; rw [hd]
  · rw [hs]
    exact row_low (Nat.le_of_lt hP) (row_at (fun k h1 h2 => put4_other _ _ _ _ _ _ k (by omega)) hO)
theorem rscan_drew {s : ByteArray} {w W : World} {e : Ending} (h : RScanPost s w e W) : RScanPost s w e W.drew :=
  ⟨h.1.drew, h.2⟩
theorem row_alloc_b {A : World} {base : Nat} {e : TypeId} {size n : Nat} {v : Value} {xs : List Value} (hr : A.ownsRow base e size v n xs) (k : Nat) (hk : A.heap.size ≤ k ∨ k < base) : v.ownBlock ≠ some k := fun q => by have := hr.lt k q; omega
theorem cell_tok_new2 (W : World) (K : Obj) (x : El) : ∀ j u, (tokCells x)[j]? = some u → ((W.alloc K).alloc (tokObj x)).cell? ((⟨W.heap.size + 1, 0, none⟩ : Addr).add j) = some u := by
  have := cell_tok_new (W.alloc K) x
  rwa [World.size_alloc] at this
theorem app_facts {w w3 w4 : World} {base t n : Nat} {u : Value} {xs : List Value} {cs : Array Value} {T : Obj} {e : TypeId} {size : Nat} (hO : w3.ownsRow base e size u n xs) (hgrow : ((w3.alloc (.cells cs t)).alloc T).grownBy w4 u.ownBlock) (hP : base ≤ w3.heap.size) (hB : Below w.heap.size w w3) (hw : w.heap.size ≤ base) :
    (∀ k, k < base → w4.heap[k]? = w3.heap[k]?) ∧ w4.heap[w3.heap.size]? = some (.cells cs t (0, 0)) ∧ w3.heap.size + 2 ≤ w4.heap.size ∧ Below w.heap.size w w4 := by
  have hsz := hgrow.size
  simp only [World.size_alloc] at hsz
  refine ⟨fun k hk => ?_, ?_, by omega, ?_⟩
  · rw [hgrow.block k (by simp only [World.size_alloc]; omega) (fun q => row_alloc_b hO k (.inr hk) q.symm), Below.heap_alloc _ _ _ (by rw [World.size_alloc]; omega), Below.heap_alloc _ _ _ (by omega)]
  · rw [hgrow.block _ (by simp only [World.size_alloc]; omega) (fun q => row_alloc_b hO _ (.inl (Nat.le_refl _)) q.symm), Below.heap_alloc _ _ _ (by rw [World.size_alloc]; omega)]
    exact heap_alloc_new _ _
  · exact ((hB.alloc (by omega) _).alloc (by rw [World.size_alloc]; omega) _).grown hgrow (by simp only [World.size_alloc]; omega) (fun k q => by have := (hO.lt k q).1; omega)
theorem rscan_step {s : ByteArray} {w w4 w5 Wf : World} {P i i2 l c l' c' kind num size : Nat} {text : List UInt8} {tx : ByteArray} {done : List T} {v' : Value} {Qo : Obj}
    (HA : AtS s.data.toList done i l c) (HRd : readL (s.data.toList.drop i) = .tok kind text num size) (h5 : kind ≠ 5) (htx : tx = ⟨⟨text⟩⟩) (htz : tx.size = size) (hi2 : i2 = skipP false s (i + tx.size)) (hq : posL s.data.toList i2 = (l', c'))
    (HD4 : w4.heap[w.heap.size]? = some (.cells #[.int .i64 0, .int .i64 0, .int .i64 0, .int .i64 0] 28 (0, 0))) (HB5 : Below w4.heap.size w4 w5) (HO4 : w4.ownsRow (P + 1) 35 5 v' (done.length + 1) (((done.map elT).flatMap tokCells) ++ tokCells ⟨kind, tx, num, l, c, 0, 0, 0, 0⟩))
    (HB4 : Below w.heap.size w w4) (hOn : Only P (w5.alloc Qo) Wf) (hPb : Wf.heap[P]? = some (.cells #[.int .i64 l', .int .i64 c'] 26 (0, 0))) (hPw : w.heap.size + 1 ≤ P) (hP4 : P + 1 ≤ w4.heap.size) (hdi : done.length ≤ i) (hz : 1 ≤ size) (hii : i + tx.size ≤ i2) :
    Hid (AtS s.data.toList (done ++ [(⟨kind, text, num, l, c, i⟩ : T)]) i2 l' c') ∧ Hid (Wf.heap[w.heap.size]? = some (.cells #[.int .i64 0, .int .i64 0, .int .i64 0, .int .i64 0] 28 (0, 0))) ∧ Hid (Wf.heap[P]? = some (.cells #[.int .i64 l', .int .i64 c'] 26 (0, 0))) ∧
    Hid (Wf.ownsRow (P + 1) 35 5 v' (done ++ [(⟨kind, text, num, l, c, i⟩ : T)]).length (((done ++ [(⟨kind, text, num, l, c, i⟩ : T)]).map elT).flatMap tokCells)) ∧ Hid (Below w.heap.size w Wf) ∧ Hid ((done ++ [(⟨kind, text, num, l, c, i⟩ : T)]).length ≤ i2 ∧ P + 1 ≤ Wf.heap.size) := by
  have s4 := HB4.size
  have s5 := HB5.size
  have s6 := hOn.size
  rw [World.size_alloc] at s6
  refine ⟨atS_on HA HRd h5 (by rw [hi2, htz]; rfl) hq, ?_, hPb, ?_, ?_, ?_, by omega⟩
  · exact (hOn.block _ (by rw [World.size_alloc]; omega) (fun e => by injection e with e; omega)).trans ((Below.heap_alloc _ _ _ (by omega)).trans (old_block HB5 (by omega) HD4))
  · have h1 : ((done ++ [(⟨kind, text, num, l, c, i⟩ : T)]).map elT).flatMap tokCells = ((done.map elT).flatMap tokCells) ++ tokCells ⟨kind, tx, num, l, c, 0, 0, 0, 0⟩ := by
      subst htx
      rw [List.map_append, List.flatMap_append]
      simp [elT]
    rw [h1, List.length_append]
    exact row_at (fun k h1 h2 => hOn.block k h2 (fun e => by injection e with e; omega)) ((row_below HB5 HO4).alloc _)
  · exact (((HB4.trans (HB5.mono s4)).alloc (by omega) _)).grown hOn (by rw [World.size_alloc]; omega) (fun k e => by injection e with e; omega)
  · rw [List.length_append]; simp only [List.length_cons, List.length_nil]; omega
theorem app_facts1 {w w3 w4 : World} {base n : Nat} {u : Value} {xs : List Value} {T : Obj} {e : TypeId} {size : Nat} (hO : w3.ownsRow base e size u n xs) (hgrow : (w3.alloc T).grownBy w4 u.ownBlock) (hP : base ≤ w3.heap.size) (hB : Below w.heap.size w w3) (hw : w.heap.size ≤ base) :
    (∀ k, k < base → w4.heap[k]? = w3.heap[k]?) ∧ Below w.heap.size w w4 := by
  have hsz := hgrow.size
  simp only [World.size_alloc] at hsz
  refine ⟨fun k hk => ?_, ?_⟩
  · rw [hgrow.block k (by simp only [World.size_alloc]; omega) (fun q => row_alloc_b hO k (.inr hk) q.symm), Below.heap_alloc _ _ _ (by omega)]
  · exact (hB.alloc (by omega) _).grown hgrow (by simp only [World.size_alloc]; omega) (fun k q => by have := (hO.lt k q).1; omega)
set_option maxRecDepth 100000 in
set_option maxHeartbeats 8000000 in
theorem rscan_i (s : ByteArray) (w : World) (hs : s.size ≤ 1000000) : Calls Try.prog 6 #[.string s] w (RScanPost s w) := by
  obtain ⟨Q, HQ⟩ : ∃ Q, Hid (Q = RScanPost s w) := ⟨_, hid rfl⟩
  rw [← HQ.out]
  have hs' : (s.size : Int) ≤ 1000000 := by omega
  obtain ⟨i0, Hi0⟩ : ∃ i0, Hid (i0 = skipP false s 0) := ⟨_, hid rfl⟩
  obtain ⟨l0, c0, Hp0⟩ : ∃ l0 c0, Hid (posL s.data.toList i0 = (l0, c0)) := ⟨_, _, hid rfl⟩
  obtain ⟨hi00, hi01⟩ := skipP_le s 0 (Nat.zero_le _)
  rw [← Hi0.out] at hi00 hi01
  have HA := hid (atS_start s.data.toList Hi0.out Hp0.out)
  obtain ⟨i0t, hti, hz0, hz1, hz2⟩ := info_parts Try.info35
  go_enter Try.func6, Try.ntmps6
  go_wp2_with (first
    | (go_at_call 9; refine (rskip_v s 0 i0 _ _ rfl Hi0.out (Nat.zero_le _) (by omega)).mono ?_; rintro e w1 ⟨rfl, rfl⟩)
    | (go_at_call 10; refine (rplace_v s i0 _ _ rfl hi01 (by omega) Hp0.out).mono ?_; rintro e w2 ⟨rfl, HB2⟩))
  obtain ⟨P, HPe⟩ : ∃ P, Hid (P = w2.heap.size) := ⟨_, hid rfl⟩
  have HPw := hid (show w.heap.size + 1 ≤ P from by have := HB2.out.size; rw [World.size_alloc] at this; rw [HPe.out]; exact this)
  have HD0 := hid (show (w2.alloc (.cells #[.int .i64 l0, .int .i64 c0] 26)).heap[w.heap.size]? = some (.cells #[.int .i64 0, .int .i64 0, .int .i64 0, .int .i64 0] 28 (0, 0)) from
    (Below.heap_alloc _ _ _ (by have := HPw.out; rw [HPe.out] at this; omega)).trans (old_block HB2.out (by simp) (heap_alloc_new w zero4)))
  have HP0 := hid (show (w2.alloc (.cells #[.int .i64 l0, .int .i64 c0] 26)).heap[P]? = some (.cells #[.int .i64 l0, .int .i64 c0] 26 (0, 0)) from by rw [HPe.out]; exact heap_alloc_new _ _)
  have HBel := hid (((((Below.refl w.heap.size w).alloc (Nat.le_refl _) zero4).trans (HB2.out.mono (by simp))).alloc (by have := HB2.out.size; rw [World.size_alloc] at this; omega) (.cells #[.int .i64 l0, .int .i64 c0] 26)))
  have HPs := hid (show P + 1 ≤ (w2.alloc (.cells #[.int .i64 l0, .int .i64 c0] 26)).heap.size from by rw [HPe.out]; simp)
  rw [← HPe.out]
  obtain ⟨W0, hW0⟩ : ∃ W0, w2.alloc (.cells #[.int .i64 l0, .int .i64 c0] 26) = W0 := ⟨_, rfl⟩
  rw [hW0] at HD0 HP0 HBel HPs ⊢
  clear hW0 HB2 HPe
  go_loopg [4, 5] (s.size - i0) (fun g v4 v5 wr => ∃ (i l c : Nat) (done : List T), i ≤ s.size ∧ g = s.size - i ∧ v5 = .int .i64 i ∧ Hid (AtS s.data.toList done i l c) ∧ Hid (wr.heap[w.heap.size]? = some (.cells #[.int .i64 0, .int .i64 0, .int .i64 0, .int .i64 0] 28 (0, 0))) ∧
    Hid (wr.heap[P]? = some (.cells #[.int .i64 l, .int .i64 c] 26 (0, 0))) ∧ Hid (wr.ownsRow (P + 1) 35 5 v4 done.length ((done.map elT).flatMap tokCells)) ∧ Hid (Below w.heap.size w wr) ∧ Hid (done.length ≤ i ∧ P + 1 ≤ wr.heap.size))
  case atStart => exact ⟨i0, l0, c0, [], hi01, rfl, rfl, HA, HD0, HP0, hid (World.ownsRow_nil _ _ _ _), HBel, hid ⟨Nat.zero_le _, HPs.out⟩⟩
  case round =>
    obtain ⟨i, l, c, done, hi, rfl, rfl, HA, HD, HP, HO, HB, HN⟩ := hrel
    have hlc := pos_bd s.data.toList i
    rw [(show posL s.data.toList i = (l, c) from by obtain ⟨fuel, k, ln, hd, h1, q1, q2, q3, q4, q5, q6, q7, q8, q9, q10⟩ := HA.out; exact q9)] at hlc
    obtain ⟨hl, hc⟩ := hlc
    simp only at hl hc
    by_cases hlt : i < s.size
    · have hlt' : (i : Int) < (s.size : Int) := by omega
      cases hRd : readL (s.data.toList.drop i) with
      | bad f size =>
        have HRd := hid hRd
        clear hRd
        have hf := read_bad HRd.out
        have hf0 : ((f : Int) != 0) = true := by rcases hf with rfl | rfl <;> rfl
        clear hf
        go_wp2_with (go_at_call 11; refine (one_f s i _ hlt (by omega) HRd.out).mono ?_; rintro e w3 ⟨kind, tx, num, rfl, HB3⟩; have HP3 := hid (old_block HB3.out (Array.getElem?_eq_some_iff.1 HP.out).1 HP.out); have HD3 := hid (old_block HB3.out (Array.getElem?_eq_some_iff.1 HD.out).1 HD.out); have p0 := fun o => (blk2f_alloc HP3.out o).1; have p1 := fun o => (blk2f_alloc HP3.out o).2.1)
        have q := (blk4_alloc HD3.out (.cells #[.int .i64 kind, .string tx, .int .i64 num, .int .i64 0, .int .i64 0] 35))
        obtain ⟨⟨d0, d1, d2, d3⟩, e0, e1, e2, e3⟩ := q
        go_region
        all_goals go_wp2
        all_goals
          refine bodyPost_ret (v := .tuple #[u4, diagV 1 f l c]) (res_rscan rfl rfl (put4_same (.int .i64 1) (.int .i64 f) (.int .i64 l) (.int .i64 c) ((Below.heap_alloc _ _ _ (Array.getElem?_eq_some_iff.1 HD3.out).1).trans HD3.out))) rfl ?_
          rw [HQ.out]
          exact rscan_drew (rscan_leave (P := P + 1) (d := some ⟨f, l, c⟩) (by have := HPw.out; omega) (atS_bad HA.out HRd.out) ((HB.out.trans (HB3.out.mono HB.out.size)).alloc (by have := HB.out.size; have := HB3.out.size; omega) _) ((row_below HB3.out HO.out).alloc _) rfl)
      | tok kind text num size =>
        have HRd := hid hRd
        clear hRd
        have h5 := read_kind (src := s.data.toList) (by rw [← Lib.size_eq]; exact hlt) HRd.out
        obtain ⟨z1, z2, z3, z4, z5⟩ := atS_size HA.out HRd.out h5
        rw [← Lib.size_eq] at z1
        have H5 := hid h5
        clear h5
        obtain ⟨tx, Htx⟩ : ∃ tx : ByteArray, Hid (tx = ⟨⟨text⟩⟩) := ⟨_, hid rfl⟩
        have htz : tx.size = size := by rw [Htx.out, Lib.size_eq]; exact z3
        clear z3
        obtain ⟨i2, Hi2⟩ : ∃ i2, Hid (i2 = skipP false s (i + tx.size)) := ⟨_, hid rfl⟩
        obtain ⟨hi2a, hi2b⟩ := skipP_le s (i + tx.size) (by omega)
        rw [← Hi2.out] at hi2a hi2b
        have E1 := hid (show (i : Int) + (tx.size : Int) = ((i + tx.size : Nat) : Int) by omega)
        have E2 := hid (show (i2 : Int) - (i : Int) = ((i2 - i : Nat) : Int) by omega)
        have hii : (i : Int) ≤ (i2 : Int) := by omega
        have hii3 : i < i2 := by omega
        have hii2 : (i2 : Int) ≤ (s.size : Int) := by omega
        obtain ⟨l1, c1, Hp1⟩ : ∃ l1 c1, Hid (posL (s.extract i i2).data.toList (i2 - i) = (l1, c1)) := ⟨_, _, hid rfl⟩
        have HPX := hid (posL_ext (a := i) (b := i2) (by omega) (by omega) (show posL s.data.toList i = (l, c) from by obtain ⟨fuel, k, ln, hd, h1, q1, q2, q3, q4, q5, q6, q7, q8, q9, q10⟩ := HA.out; exact q9) Hp1.out)
        have hb1 := pos_bd (s.extract i i2).data.toList (i2 - i)
        rw [Hp1.out] at hb1
        obtain ⟨hl1, hc1⟩ := hb1
        simp only at hl1 hc1
        have hex := hid (show (s.extract i i2).size = i2 - i from ext_size (by omega) (by omega))
        have hnum : (num : Int) ≤ 2147483647 := by omega
        have HTZ := hid htz
        clear htz
        go_wp2_with (first
          | (go_at_call 11; refine (one_t s i _ hlt (by omega) Htx.out HRd.out).mono ?_; rintro e w3 ⟨rfl, HB3⟩; have HP3 := hid (old_block HB3.out (Array.getElem?_eq_some_iff.1 HP.out).1 HP.out); have HO3 := hid (row_below HB3.out HO.out); have p0 := fun o => (blk2f_alloc HP3.out o).1; have p1 := fun o => (blk2f_alloc HP3.out o).2.1)
          | (at_builtin; go_loud (refine wpList_append_own _ rfl _ _ 23 rfl (P + 1) 35 i0t (.agg #[.int .i64 0, .string ⟨#[]⟩, .int .i64 0, .int .i64 0, .int .i64 0]) 5 48 Try.underlying23 hti hz0 hz1 hz2 rfl (by decide) _ _ _ rfl ((HO3.out.alloc (.cells #[.int .i64 kind, .string tx, .int .i64 num, .int .i64 l, .int .i64 c] 35)).alloc _) ⟨w3.heap.size + 1, 0, none⟩ 1 1 (tokCells ⟨kind, tx, num, l, c, 0, 0, 0, 0⟩) rfl rfl (cell_tok_new2 _ _ _) (tok_one _) (by unfold maxLen; have := HN.out.1; omega) (by have := HN.out.1; omega) (by simp only [World.size_alloc]; have := HN.out.2; have := HB3.out.size; omega) ?_); intro v' w4 hown hgrow _
             obtain ⟨l4, q4, r4, t4⟩ := app_facts HO3.out hgrow (by have := HN.out.2; have := HB3.out.size; omega) (HB.out.trans (HB3.out.mono HB.out.size)) (by have := HPw.out; omega)
             have low4 := hid l4
             have HK4 := hid q4
             have HO4 := hid hown
             have HB4 := hid t4
             have HS4 := hid r4
             clear hown hgrow l4 q4 r4 t4
             obtain ⟨⟨k0, k1, -, -, -⟩, -⟩ := blk5 HK4.out)
          | (go_at_call 9; refine (rskip_v s (i + tx.size) i2 _ _ E1.out Hi2.out (by omega) (by omega)).mono ?_; rintro e w1 ⟨rfl, rfl⟩)
          | (go_at_call 10; refine (rplace_v (s.extract i i2) (i2 - i) _ _ E2.out (by have := hex.out; omega) (by have := hex.out; omega) Hp1.out).mono ?_; rintro e w5 ⟨rfl, HB5⟩
             have HP5 := hid (old_block HB5.out (by have := HS4.out; have := HN.out.2; have := HB3.out.size; omega) ((low4.out P (Nat.lt_succ_self _)).trans HP3.out))
             clear p0 p1 k0 k1
             have p0 := fun o => (blk2f_alloc HP5.out o).1
             have p1 := fun o => (blk2f_alloc HP5.out o).2.1
             have p2 := fun o => (blk2f_alloc HP5.out o).2.2.1
             have p3 := fun o => (blk2f_alloc HP5.out o).2.2.2))
        · rename_i q1
          go_roundg (s.size - i2)
          case measure => omega
          case rel =>
            have HP6 := hid (put2_any (.int .i64 ((l : Int) + l1 - 1)) (.int .i64 c1) ((Below.heap_alloc w5 (.cells #[.int .i64 l1, .int .i64 c1] 26) P (Array.getElem?_eq_some_iff.1 HP5.out).1).trans HP5.out))
            have e3 : (Value.int .i64 ((l : Int) + l1 - 1)) = .int .i64 ((l + (l1 - 1) : Nat) : Int) := congrArg _ (by omega)
            rw [e3] at HP6 ⊢
            have hq := HPX.out.2.2
            rw [if_pos (by omega)] at hq
            exact ⟨i2, l + (l1 - 1), c1, _, hi2b, rfl, rfl, rscan_step HA.out HRd.out H5.out Htx.out HTZ.out Hi2.out hq ((low4.out _ (by have := HPw.out; omega)).trans (old_block HB3.out (Array.getElem?_eq_some_iff.1 HD.out).1 HD.out)) HB5.out HO4.out HB4.out (((Only.refl _ _).set _ _).set _ _) HP6.out HPw.out (by have := HS4.out; have := HN.out.2; have := HB3.out.size; omega) HN.out.1 z2 hi2a⟩
        · rename_i q1
          go_roundg (s.size - i2)
          case measure => omega
          case rel =>
            have HP6 := hid (put1_any (.int .i64 ((c : Int) + c1 - 1)) ((Below.heap_alloc w5 (.cells #[.int .i64 l1, .int .i64 c1] 26) P (Array.getElem?_eq_some_iff.1 HP5.out).1).trans HP5.out))
            have hcc := HPX.out.2.1
            have e3 : (Value.int .i64 ((c : Int) + c1 - 1)) = .int .i64 ((c + (c1 - 1) : Nat) : Int) := congrArg _ (by omega)
            rw [e3] at HP6 ⊢
            have hq := HPX.out.2.2
            rw [if_neg (by omega)] at hq
            exact ⟨i2, l, c + (c1 - 1), _, hi2b, rfl, rfl, rscan_step HA.out HRd.out H5.out Htx.out HTZ.out Hi2.out hq ((low4.out _ (by have := HPw.out; omega)).trans (old_block HB3.out (Array.getElem?_eq_some_iff.1 HD.out).1 HD.out)) HB5.out HO4.out HB4.out ((Only.refl _ _).set _ _) HP6.out HPw.out (by have := HS4.out; have := HN.out.2; have := HB3.out.size; omega) HN.out.1 z2 hi2a⟩
    · have hlt' : ¬ (i : Int) < (s.size : Int) := by omega
      have HEND := hid (atS_end HA.out (by rw [← Lib.size_eq]; omega))
      obtain ⟨p0, p1, -, -⟩ := blk2f HP.out
      have HDA := hid (fun o => (Below.heap_alloc wr o _ (Array.getElem?_eq_some_iff.1 HD.out).1).trans HD.out)
      go_wp2_with (at_builtin; go_must (refine wpList_append_own _ rfl _ _ 23 rfl (P + 1) 35 i0t (.agg #[.int .i64 0, .string ⟨#[]⟩, .int .i64 0, .int .i64 0, .int .i64 0]) 5 48 Try.underlying23 hti hz0 hz1 hz2 rfl (by decide) _ _ _ rfl (HO.out.alloc _) ⟨wr.heap.size, 0, none⟩ 1 1 (tokCells ⟨5, ⟨#[]⟩, 0, l, c, 0, 0, 0, 0⟩) rfl rfl (cell_tok_new _ _) (tok_one _) (by unfold maxLen; have := HN.out.1; omega) (by have := HN.out.1; omega) (by simp only [World.size_alloc]; have := HN.out.2; omega) ?_); intro v' w4 hown hgrow _
                   obtain ⟨l4, t4⟩ := app_facts1 HO.out hgrow HN.out.2 HB.out (by have := HPw.out; omega)
                   have HO4 := hid hown
                   have HB4 := hid t4
                   have HD4 := hid ((l4 w.heap.size (by have := HPw.out; omega)).trans HD.out)
                   clear hown hgrow l4 t4
                   obtain ⟨⟨d0, d1, d2, d3⟩, e0, e1, e2, e3⟩ := blk4 HD4.out)
      refine bodyPost_ret (v := .tuple #[v', diagV 0 0 0 0]) (res_rscan rfl rfl (put4_same (.int .i64 0) (.int .i64 0) (.int .i64 0) (.int .i64 0) HD4.out)) rfl ?_
      rw [HQ.out]
      exact rscan_leave (P := P + 1) (ts := done ++ [⟨5, [], 0, l, c, i⟩]) (d := none) (by have := HPw.out; omega) HEND.out HB4.out (by
        have h1 : ((done ++ [(⟨5, [], 0, l, c, i⟩ : T)]).map elT).flatMap tokCells = ((done.map elT).flatMap tokCells) ++ tokCells ⟨5, ⟨#[]⟩, 0, l, c, 0, 0, 0, 0⟩ := by
          rw [List.map_append, List.flatMap_append]; simp [elT]
        rw [h1, List.length_append]; exact HO4.out) rfl
end Go.Proofs.Ytfjbcnnidhgenaa
