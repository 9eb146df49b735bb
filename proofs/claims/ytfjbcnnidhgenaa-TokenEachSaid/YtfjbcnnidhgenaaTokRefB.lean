/- The reference of layer 1: the place behind so many bytes. No conditions. -/
import Derived.Test.YtfjbcnnidhgenaaTokRefA
namespace Go.Proofs.Ytfjbcnnidhgenaa
open Go.RowKit
theorem res_pos {fn : Func} (hres : fn.results = #[.cell 4 26]) {x : Array Value} {k : Nat} {u0 u1 : Value} {W : World}
    (h : x[4]?.getD undef = .pointer (some ⟨k, 0, none⟩)) (hb : W.heap[k]? = some (.cells #[u0, u1] 26 (0, 0))) :
    (results fn x).run Try.prog W = .ok (.agg #[u0, u1]) W := by
  obtain ⟨c0, c1, -, -⟩ := blk2f hb
  simp [results, hres, go_sem, h, c0, c1]
theorem put2_any {W : World} {k t : Nat} {v0 v1 : Value} (u0 u1 : Value) (h : W.heap[k]? = some (.cells #[v0, v1] t (0, 0))) : ((W.setCell ⟨k, 0, none⟩ u0).setCell ⟨k, 1, none⟩ u1).heap[k]? = some (.cells #[u0, u1] t (0, 0)) := by
  simp [World.setCell, Array.getElem?_modify, h]
theorem put1_any {W : World} {k t : Nat} {v0 v1 : Value} (u1 : Value) (h : W.heap[k]? = some (.cells #[v0, v1] t (0, 0))) : (W.setCell ⟨k, 1, none⟩ u1).heap[k]? = some (.cells #[v0, u1] t (0, 0)) := by
  simp [World.setCell, Array.getElem?_modify, h]
set_option maxRecDepth 100000 in
set_option maxHeartbeats 8000000 in
theorem rplace_i (s : ByteArray) (n : Nat) (w : World) (hn : n ≤ s.size) (hs : s.size ≤ 2000000) {l1 c1 : Nat} (hp : posL s.data.toList n = (l1, c1)) :
    Calls Try.prog 10 #[.string s, .int .i64 n] w fun e w' => e = .returned (.agg #[.int .i64 l1, .int .i64 c1]) ∧ Below w.heap.size w w' := by
  have HP1 := hid hp
  clear hp
  have HB := hid (show ((w.alloc (.cells #[.int .i64 0, .int .i64 0] 26)).alloc (.cells #[.int .i64 1, .int .i64 1] 26)).heap[w.heap.size + 1]? = some (.cells #[.int .i64 1, .int .i64 1] 26 (0, 0)) from by
    have := heap_alloc_new (w.alloc (.cells #[.int .i64 0, .int .i64 0] 26)) (.cells #[.int .i64 1, .int .i64 1] 26)
    rwa [World.size_alloc] at this)
  have HB0 := hid (show ((w.alloc (.cells #[.int .i64 0, .int .i64 0] 26)).alloc (.cells #[.int .i64 1, .int .i64 1] 26)).heap[w.heap.size]? = some (.cells #[.int .i64 0, .int .i64 0] 26 (0, 0)) from
    (Below.heap_alloc _ _ _ (by simp)).trans (heap_alloc_new _ _))
  have HBel := hid ((((Below.refl w.heap.size w).alloc (Nat.le_refl _) (.cells #[.int .i64 0, .int .i64 0] 26)).alloc (by simp) (.cells #[.int .i64 1, .int .i64 1] 26)))
  obtain ⟨Z, HZ⟩ : ∃ Z : Ending → World → Prop, Hid (Z = fun e w' => e = .returned (.agg #[.int .i64 l1, .int .i64 c1]) ∧ Below w.heap.size w w') := ⟨_, hid rfl⟩
  rw [← HZ.out]
  go_enter Try.func10, Try.ntmps10
  go_wp2
  obtain ⟨W2, hW2⟩ : ∃ W2, ((w.alloc (.cells #[.int .i64 0, .int .i64 0] 26)).alloc (.cells #[.int .i64 1, .int .i64 1] 26)) = W2 := ⟨_, rfl⟩
  rw [hW2] at HB HB0 HBel ⊢
  clear hW2
  have HO := hid (Only.refl (w.heap.size + 1) W2)
  go_loopg [6] n (fun g v6 wr => ∃ k l c : Nat, k ≤ n ∧ g = n - k ∧ v6 = .int .i64 k ∧ Hid (posL s.data.toList k = (l, c)) ∧ Hid (wr.heap[w.heap.size + 1]? = some (.cells #[.int .i64 l, .int .i64 c] 26 (0, 0))) ∧ Hid (Only (w.heap.size + 1) W2 wr))
  case atStart => exact ⟨0, 1, 1, Nat.zero_le _, rfl, rfl, hid rfl, HB, HO⟩
  case round =>
    obtain ⟨k, l, c, hk, rfl, rfl, HP, HPB, HO⟩ := hrel
    obtain ⟨p0, p1, p2, p3⟩ := blk2f HPB.out
    have bdb := pos_bd s.data.toList k
    rw [HP.out] at bdb
    obtain ⟨u3, u4⟩ := bdb
    simp only at u3 u4
    by_cases hlt : k < n
    · have hlt' : (k : Int) < (n : Int) := by omega
      have hks : k < s.size := by omega
      have hks' : (k : Int) < (s.size : Int) := by omega
      cases h10 : ((s[k].toNat : Int) == 10)
      case true =>
        go_wp2
        go_roundg (n - (k + 1))
        case measure => omega
        case rel => exact ⟨k + 1, l + 1, 1, by omega, rfl, rfl, hid (pos_nl hks HP.out h10), hid (put2_any (.int .i64 ((l : Int) + 1)) (.int .i64 1) HPB.out), hid ((HO.out.set _ _).set _ _)⟩
      case false =>
        go_wp2
        go_roundg (n - (k + 1))
        case measure => omega
        case rel => exact ⟨k + 1, l, c + 1, by omega, rfl, rfl, hid (pos_no hks HP.out h10), hid (put1_any (.int .i64 ((c : Int) + 1)) HPB.out), hid (HO.out.set _ _)⟩
    · have hlt' : ¬ (k : Int) < (n : Int) := by omega
      have hkn : k = n := by omega
      have he := HP.out.symm.trans ((congrArg _ hkn).trans HP1.out)
      injection he with e1 e2
      have q0 := (HO.out.block w.heap.size (Array.getElem?_eq_some_iff.1 HB0.out).1 (fun e => by injection e with e; omega)).trans HB0.out
      obtain ⟨z0, z1, z2, z3⟩ := blk2f q0
      have Q0 := hid q0
      have E1 := hid e1
      have E2 := hid e2
      clear q0 hkn e1 e2
      go_wp2
      refine bodyPost_ret (v := .agg #[.int .i64 l, .int .i64 c]) (res_pos Try.results10 rfl (put2_any (.int .i64 l) (.int .i64 c) Q0.out)) rfl ?_
      rw [HZ.out, E1.out, E2.out]
      exact ⟨rfl, (((HBel.out.grown HO.out (by have := HBel.out.size; omega) (fun j e => by cases e; omega)).setCell (p := ⟨w.heap.size, 0, none⟩) (Nat.le_refl _) _).setCell (p := ⟨w.heap.size, 1, none⟩) (Nat.le_refl _) _)⟩
end Go.Proofs.Ytfjbcnnidhgenaa
