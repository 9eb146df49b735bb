/- What the iterator of tokens does with a body that keeps its blocks. Condition: at most 1000000 bytes. -/
import Derived.RangeFuncNested
import Derived.RangeFuncBound
import Derived.RangeFuncCalls
import Derived.RangeFuncLeaves
import Derived.Shelf.Abstract
import Derived.WalkKit
import Derived.OwnWalkIn
import Derived.TacticsInMore
import Derived.LoopNIn
import Derived.LoopIn
import Derived.Test.YtpaenaofebdgiaaTokM
import Derived.Test.YtpaenaofebdgiaaTokG
namespace Go.Proofs.Ytpaenaofebdgiaa
open Go.RowKit
attribute [local go_sem] Oper.semAt_some

theorem skip_v (B : Nat) (s : ByteArray) (a ln hd : Nat) {k1 l1 h1 : Nat} (w : World) (h : Rdr w B s a ln hd) (ha : a ≤ s.size) (hs : s.size ≤ 2000000) (hln : ln ≤ a + 1)
    (hk : skipL false (s.data.toList.drop a) a ln hd = (k1, l1, h1)) :
    Calls Try.prog 27 #[.pointer (some ⟨B, 0, none⟩)] w fun e w' => (∃ v, e = .returned v) ∧ Hid (Only B w w') ∧ Hid (Rdr w' B s k1 l1 h1) := by
  have := skip_i B s a ln hd w h ha hs hln
  rw [hk] at this
  exact this
theorem place_v (B : Nat) (s : ByteArray) (a ln hd c : Nat) (w : World) (h : Rdr w B s a ln hd) (ha : a ≤ 2000000) (hd' : hd ≤ a) (hc : c = a - hd + 1) :
    Calls Try.prog 26 #[.pointer (some ⟨B, 0, none⟩)] w fun e w' => e = .returned (.agg #[.int .i64 ln, .int .i64 c]) ∧ Hid (Only B w w') ∧ Hid (Rdr w' B s a ln hd) := by
  subst hc
  refine (place_i B s a ln hd w h ha hd').mono ?_
  rintro e w' ⟨he, hb⟩
  exact ⟨he, ⟨hb.os, hb.tape, hb.output, hb.size, fun k hk _ => hb.block k hk⟩, (hb.block B h.lt).trans h⟩
theorem mk_of {tx : ByteArray} {l : List UInt8} (h : tx.data.toList = l) : tx = ⟨⟨l⟩⟩ := by
  subst h; rfl
theorem read_tok (B : Nat) (s : ByteArray) (a ln hd : Nat) (w : World) (h : Rdr w B s a ln hd) (ha : a ≤ s.size) (hs : s.size ≤ 2000000) {kind num size : Nat} {text : List UInt8} (hR : readL (s.data.toList.drop a) = .tok kind text num size) :
    Calls Try.prog 28 #[.pointer (some ⟨B, 0, none⟩)] w fun e w' => e = .returned (.tuple #[tokV kind ⟨⟨text⟩⟩ num 0 0, .int .i64 0]) ∧ Hid (Only B w w') ∧ Hid (Rdr w' B s (a + size) ln hd) := by
  have := read_i B s a ln hd w h ha hs
  rw [hR] at this
  refine this.mono ?_
  rintro e w' ⟨hO, ⟨tx, ht, he⟩, hr⟩
  rw [mk_of ht] at he
  exact ⟨he, hO, hr⟩
theorem read_err (B : Nat) (s : ByteArray) (a ln hd : Nat) (w : World) (h : Rdr w B s a ln hd) (ha : a ≤ s.size) (hs : s.size ≤ 2000000) {f size : Nat} (hR : readL (s.data.toList.drop a) = .bad f size) :
    Calls Try.prog 28 #[.pointer (some ⟨B, 0, none⟩)] w fun e w' => ∃ tx, e = .returned (.tuple #[tokV 0 tx 0 0 0, .int .i64 f]) ∧ Hid (Only B w w') ∧ Hid (Rdr w' B s (a + size) ln hd) := by
  have := read_i B s a ln hd w h ha hs
  rw [hR] at this
  refine this.mono ?_
  rintro e w' ⟨hO, ⟨tx, he⟩, hr⟩
  exact ⟨tx, he, hO, hr⟩
theorem Only.trans {B : Nat} {a b c : World} (h : Only B a b) (k : Only B b c) : Only B a c :=
  ⟨k.os.trans h.os, k.tape.trans h.tape, k.output.trans h.output, Nat.le_trans h.size k.size, fun i hi hne => (k.block i (Nat.lt_of_lt_of_le hi h.size) hne).trans (h.block i hi hne)⟩
theorem Only.alloc {B : Nat} {a b : World} (h : Only B a b) (o : Obj) : Only B a (b.alloc o) := h.trans (World.grownBy_alloc b o _)

/-- What a round of the caller's keeps: the iterator's block, and what the iterator has laid since the last round. -/
structure Kept (B : Nat) (Wa W1 W' : World) : Prop where
  size : W1.heap.size ≤ W'.heap.size
  own : W'.heap[B]? = W1.heap[B]?
  new : ∀ k, Wa.heap.size ≤ k → k < W1.heap.size → W'.heap[k]? = W1.heap[k]?

/-- Between two rounds. -/
def InvE (s : ByteArray) (J : List El → World → Prop) (W wr : World) : Prop :=
  ∃ (pre : List El) (Wa : World) (k ln hd fuel : Nat), J pre Wa ∧ Only W.heap.size Wa wr ∧ Rdr wr W.heap.size s k ln hd ∧ k ≤ s.size ∧ hd ≤ k ∧ ln ≤ k + 1 ∧ s.size - k < fuel ∧ W.heap.size ≤ Wa.heap.size ∧
    elems (scanL s.data.toList) = pre ++ elems (eachL s.data.toList fuel k ln hd)
noncomputable def leftE (s : ByteArray) (W wr : World) : Nat := match wr.cell? ⟨W.heap.size, 1, none⟩ with | some (.int _ q) => s.size - q.toNat | _ => 0
theorem leftE_eq {s : ByteArray} {W wr : World} {k ln hd : Nat} (h : Rdr wr W.heap.size s k ln hd) : leftE s W wr = s.size - k := by
  unfold leftE; rw [h.c.2.1]; rfl
theorem blk2 {W : World} {k t : Nat} {v0 v1 : Value} (h : W.heap[k]? = some (.cells #[v0, v1] t (0, 0))) :
    W.cell? ⟨k, 0, none⟩ = some v0 ∧ W.cell? ⟨k, 1, none⟩ = some v1 := by
  simp [World.cell?, h]
theorem blk2_alloc {W : World} {k t : Nat} {v0 v1 : Value} (h : W.heap[k]? = some (.cells #[v0, v1] t (0, 0))) (o : Obj) :
    (W.alloc o).cell? ⟨k, 0, none⟩ = some v0 ∧ (W.alloc o).cell? ⟨k, 1, none⟩ = some v1 :=
  blk2 (((World.grownBy_alloc W o none).block k (Array.getElem?_eq_some_iff.1 h).1 (by simp)).trans h)
theorem each_bad {src : List UInt8} {fuel k ln hd k1 l1 h1 c f size : Nat} (hk : skipL false (src.drop k) k ln hd = (k1, l1, h1)) (hr : readL (src.drop k1) = .bad f size) (hc : c = k1 - h1 + 1) :
    elems (eachL src (fuel + 1) k ln hd) = [elD ⟨f, l1, c⟩] := by
  subst hc
  unfold eachL
  simp only [hk, hr]
  rfl
theorem each_end {src : List UInt8} {fuel k ln hd k1 l1 h1 c kind num size : Nat} {text : List UInt8} (hk : skipL false (src.drop k) k ln hd = (k1, l1, h1)) (hr : readL (src.drop k1) = .tok kind text num size) (hc : c = k1 - h1 + 1) (h5 : kind = 5) :
    elems (eachL src (fuel + 1) k ln hd) = [elT ⟨kind, text, num, l1, c, k1⟩] := by
  subst hc
  unfold eachL
  simp only [hk, hr, h5, if_true]
  rfl
theorem each_on {src : List UInt8} {fuel k ln hd k1 l1 h1 c kind num size : Nat} {text : List UInt8} (hk : skipL false (src.drop k) k ln hd = (k1, l1, h1)) (hr : readL (src.drop k1) = .tok kind text num size) (hc : c = k1 - h1 + 1) (h5 : kind ≠ 5) :
    elems (eachL src (fuel + 1) k ln hd) = elT ⟨kind, text, num, l1, c, k1⟩ :: elems (eachL src fuel (k1 + size) l1 h1) := by
  subst hc
  rw [eachL]
  simp only [hk, hr, if_neg h5]
  rfl
set_option maxRecDepth 100000 in
set_option maxHeartbeats 8000000 in
theorem each_in (n l Bs : Nat) (s : ByteArray) (J Jx : List El → World → Prop) (W : World) (hs : s.size ≤ 1000000) (hn : 1 ≤ n)
    (hsrc : W.cell? ⟨Bs, 0, none⟩ = some (.string s)) (h0 : J [] W)
    (hY : ∀ pre x rest Wa W1, elems (scanL s.data.toList) = pre ++ x :: rest → J pre Wa → Only W.heap.size Wa W1 → W.heap.size < W1.heap.size → YieldAt Fence.wide (n - 1) Try.prog l (encE x) W1 fun e W' =>
      (e = .returned (.bool true) ∧ J (pre ++ [x]) W' ∧ Kept W.heap.size Wa W1 W') ∨ (e = .returned (.bool false) ∧ Jx (pre ++ [x]) W')) :
    CallsIn Fence.wide n Try.prog 25 #[.func (.yield l) #[] #[], .pointer (some ⟨Bs, 0, none⟩)] W fun e W' => (∃ v, e = .returned v) ∧
      ((∃ Wa, J (elems (scanL s.data.toList)) Wa ∧ Only W.heap.size Wa W') ∨ (∃ pre x rest Wa, elems (scanL s.data.toList) = pre ++ x :: rest ∧ Jx (pre ++ [x]) Wa ∧ Only W.heap.size Wa W')) := by
  have hs1 : (s.size : Int) ≤ 1000000 := by omega
  have hsrc2 : ∀ o, (W.alloc o).cell? ⟨Bs, 0, none⟩ = some (.string s) := fun o => (World.grownBy_alloc W o none).cell hsrc (by simp)
  obtain ⟨P, HP⟩ : ∃ P : Ending → World → Prop, Hid (P = fun e W' => (∃ v, e = .returned v) ∧
      ((∃ Wa, J (elems (scanL s.data.toList)) Wa ∧ Only W.heap.size Wa W') ∨ (∃ pre x rest Wa, elems (scanL s.data.toList) = pre ++ x :: rest ∧ Jx (pre ++ [x]) Wa ∧ Only W.heap.size Wa W'))) := ⟨_, hid rfl⟩
  rw [← HP.out]
  have HY := hid hY
  have H0 := hid h0
  clear hY h0
  refine callsIn_of_wp Try.func25 rfl trivial ?_ rfl
  simp only [Try.ntmps25, List.size_toArray, List.length_cons, List.length_nil, Nat.reduceAdd, Nat.reduceSub, Array.replicate_succ, Array.replicate_zero, List.push_toArray, List.append_toArray, List.nil_append, List.cons_append]
  gi_wp2
  clear hsrc hsrc2
  gi_loopw [] (fun wr => InvE s J W wr) (fun wr => leftE s W wr)
  case atStart => exact ⟨[], W, 0, 1, 0, s.data.toList.length + 1, H0.out, (Only.refl _ _).alloc _, heap_alloc_new _ _, by omega, by omega, by omega, by rw [← Lib.size_eq]; omega, Nat.le_refl _, rfl⟩
  case round =>
    obtain ⟨pre, Wa, k, ln, hd, fuel, HJ, HO, HR, hk, hdk, hln, hfu, hsz, hel⟩ := hrel
    have HJ := hid HJ
    have HO := hid HO
    have HR := hid HR
    have hel := hid hel
    obtain ⟨k1, l1, h1, HK⟩ : ∃ k1 l1 h1, Hid (skipL false (s.data.toList.drop k) k ln hd = (k1, l1, h1)) := ⟨_, _, _, hid rfl⟩
    have hbd := skip_bd false (s.data.toList.drop k) k ln hd hdk hln
    have hlen : s.data.toList.length = s.size := (Lib.size_eq s).symm
    rw [HK.out, List.length_drop, hlen] at hbd
    simp only at hbd
    obtain ⟨b1, b2, b3, b4⟩ := hbd
    have hk1 : k1 ≤ s.size := by omega
    obtain ⟨c, HC⟩ : ∃ c, Hid (c = k1 - h1 + 1) := ⟨_, hid rfl⟩
    cases fuel with
    | zero => omega
    | succ fuel =>
      cases hRd : readL (s.data.toList.drop k1) with
      | bad f size =>
        have HRd := hid hRd
        clear hRd
        have hf := read_bad HRd.out
        have hf0 : ((f : Int) != 0) = true := by rcases hf with rfl | rfl <;> rfl
        clear hf
        have HEL := hid (each_bad (fuel := fuel) HK.out HRd.out HC.out)
        gi_wp2_with (first
          | (refine ⟨trivial, ?_⟩; gi_at_call 27; refine (callsIn_wide.2 (skip_v W.heap.size s k ln hd _ HR.out hk (by omega) hln HK.out)).mono ?_; rintro e w1 ⟨⟨v, rfl⟩, O1, R1⟩)
          | (refine ⟨trivial, ?_⟩; gi_at_call 26; refine (callsIn_wide.2 (place_v W.heap.size s k1 l1 h1 c _ R1.out (by omega) b3 HC.out)).mono ?_; rintro e w2 ⟨rfl, O2, R2⟩)
          | (refine ⟨trivial, ?_⟩
             gi_at_call 28
             refine (callsIn_wide.2 (read_err W.heap.size s k1 l1 h1 _ (R2.out.alloc _) hk1 (by omega) HRd.out)).mono ?_
             rintro e w3 ⟨tx, rfl, O3, R3⟩
             have hne := hid (show w2.heap.size ≠ W.heap.size from by have := R2.out.lt; omega)
             have pb := hid (only_block O3.out (heap_alloc_new w2 _) hne.out)
             have q0 := fun o => (blk2_alloc pb.out o).1
             have q1 := fun o => (blk2_alloc pb.out o).2
             have OW := hid ((((HO.out.trans O1.out).trans O2.out).alloc (.cells #[.int .i64 l1, .int .i64 c] 25)).trans O3.out)
             obtain ⟨fn, tm, asg, bod, hy, hRR⟩ := (show YieldAt Fence.wide (n - 1) Try.prog l #[.agg #[.int .i64 0, .string ⟨#[]⟩, .int .i64 0, .int .i64 0, .int .i64 0], .agg #[.int .i64 1, .int .i64 f, .int .i64 l1, .int .i64 c]] (w3.alloc (.cells #[.int .i64 0, .string tx, .int .i64 0, .int .i64 0, .int .i64 0] 27)) _ from HY.out pre _ _ Wa _ (hel.out.trans (congrArg (pre ++ ·) HEL.out)) HJ.out (OW.out.alloc _) (by rw [World.size_alloc]; have := R3.out.lt; omega))))
        refine hRR.mono ?_
        rintro e W' (⟨rfl, hJ', hKp⟩ | ⟨rfl, hJx'⟩)
        · gi_wp2
          refine bodyPost_ret (results_none rfl _ _ _) rfl ?_
          rw [HP.out]
          exact ⟨⟨_, rfl⟩, .inl ⟨W', by rw [hel.out, HEL.out]; exact hJ', Only.refl _ _⟩⟩
        · gi_wp2
          refine bodyPost_ret (results_none rfl _ _ _) rfl ?_
          rw [HP.out]
          exact ⟨⟨_, rfl⟩, .inr ⟨pre, _, [], W', by rw [hel.out, HEL.out], hJx', Only.refl _ _⟩⟩
      | tok kind text num size =>
        have HRd := hid hRd
        clear hRd
        obtain ⟨z1, z2, -, -, -, -⟩ := read_size HRd.out
        rw [List.length_drop, hlen] at z1
        by_cases h5 : kind = 5
        · subst h5
          clear z2
          have HEL := hid (each_end (fuel := fuel) HK.out HRd.out HC.out rfl)
          gi_wp2_with (first
            | (refine ⟨trivial, ?_⟩; gi_at_call 27; refine (callsIn_wide.2 (skip_v W.heap.size s k ln hd _ HR.out hk (by omega) hln HK.out)).mono ?_; rintro e w1 ⟨⟨v, rfl⟩, O1, R1⟩)
            | (refine ⟨trivial, ?_⟩; gi_at_call 26; refine (callsIn_wide.2 (place_v W.heap.size s k1 l1 h1 c _ R1.out (by omega) b3 HC.out)).mono ?_; rintro e w2 ⟨rfl, O2, R2⟩)
            | (refine ⟨trivial, ?_⟩
               gi_at_call 28
               refine (callsIn_wide.2 (read_tok W.heap.size s k1 l1 h1 _ (R2.out.alloc _) hk1 (by omega) HRd.out)).mono ?_
               rintro e w3 ⟨rfl, O3, R3⟩
               have hne := hid (show w2.heap.size ≠ W.heap.size from by have := R2.out.lt; omega)
               have pb := hid (only_block O3.out (heap_alloc_new w2 _) hne.out)
               have q0 := fun o => (blk2_alloc pb.out o).1
               have q1 := fun o => (blk2_alloc pb.out o).2
               have OW := hid ((((HO.out.trans O1.out).trans O2.out).alloc (.cells #[.int .i64 l1, .int .i64 c] 25)).trans O3.out)
               obtain ⟨fn, tm, asg, bod, hy, hRR⟩ := (show YieldAt Fence.wide (n - 1) Try.prog l #[.agg #[.int .i64 5, .string ⟨⟨text⟩⟩, .int .i64 num, .int .i64 l1, .int .i64 c], .agg #[.int .i64 0, .int .i64 0, .int .i64 0, .int .i64 0]] (w3.alloc (.cells #[.int .i64 5, .string ⟨⟨text⟩⟩, .int .i64 num, .int .i64 l1, .int .i64 c] 27)) _ from HY.out pre _ _ Wa _ (hel.out.trans (congrArg (pre ++ ·) HEL.out)) HJ.out (OW.out.alloc _) (by rw [World.size_alloc]; have := R3.out.lt; omega))))
          refine hRR.mono ?_
          rintro e W' (⟨rfl, hJ', hKp⟩ | ⟨rfl, hJx'⟩)
          · have tb := (hKp.new w3.heap.size (by have := OW.out.size; have := HO.out.size; omega) (by rw [World.size_alloc]; omega)).trans (heap_alloc_new w3 _)
            have t0 := (blk5 tb).1.1
            have R4 := hid ((hKp.own).trans (R3.out.alloc _))
            have HJ' := hid hJ'
            have hsz' := hKp.size
            clear tb hJ' hKp
            gi_wp2
            refine bodyPost_ret (results_none rfl _ _ _) rfl ?_
            rw [HP.out]
            exact ⟨⟨_, rfl⟩, .inl ⟨W', by rw [hel.out, HEL.out]; exact HJ'.out, Only.refl _ _⟩⟩
          · gi_wp2
            refine bodyPost_ret (results_none rfl _ _ _) rfl ?_
            rw [HP.out]
            exact ⟨⟨_, rfl⟩, .inr ⟨pre, _, _, W', by rw [hel.out, HEL.out], hJx', Only.refl _ _⟩⟩
        · have z3 := z2 h5
          clear z2
          have HEL := hid (each_on (fuel := fuel) HK.out HRd.out HC.out h5)
          gi_wp2_with (first
            | (refine ⟨trivial, ?_⟩; gi_at_call 27; refine (callsIn_wide.2 (skip_v W.heap.size s k ln hd _ HR.out hk (by omega) hln HK.out)).mono ?_; rintro e w1 ⟨⟨v, rfl⟩, O1, R1⟩)
            | (refine ⟨trivial, ?_⟩; gi_at_call 26; refine (callsIn_wide.2 (place_v W.heap.size s k1 l1 h1 c _ R1.out (by omega) b3 HC.out)).mono ?_; rintro e w2 ⟨rfl, O2, R2⟩)
            | (refine ⟨trivial, ?_⟩
               gi_at_call 28
               refine (callsIn_wide.2 (read_tok W.heap.size s k1 l1 h1 _ (R2.out.alloc _) hk1 (by omega) HRd.out)).mono ?_
               rintro e w3 ⟨rfl, O3, R3⟩
               have hne := hid (show w2.heap.size ≠ W.heap.size from by have := R2.out.lt; omega)
               have pb := hid (only_block O3.out (heap_alloc_new w2 _) hne.out)
               have q0 := fun o => (blk2_alloc pb.out o).1
               have q1 := fun o => (blk2_alloc pb.out o).2
               have OW := hid ((((HO.out.trans O1.out).trans O2.out).alloc (.cells #[.int .i64 l1, .int .i64 c] 25)).trans O3.out)
               obtain ⟨fn, tm, asg, bod, hy, hRR⟩ := (show YieldAt Fence.wide (n - 1) Try.prog l #[.agg #[.int .i64 kind, .string ⟨⟨text⟩⟩, .int .i64 num, .int .i64 l1, .int .i64 c], .agg #[.int .i64 0, .int .i64 0, .int .i64 0, .int .i64 0]] (w3.alloc (.cells #[.int .i64 kind, .string ⟨⟨text⟩⟩, .int .i64 num, .int .i64 l1, .int .i64 c] 27)) _ from HY.out pre _ _ Wa _ (hel.out.trans (congrArg (pre ++ ·) HEL.out)) HJ.out (OW.out.alloc _) (by rw [World.size_alloc]; have := R3.out.lt; omega))))
          refine hRR.mono ?_
          rintro e W' (⟨rfl, hJ', hKp⟩ | ⟨rfl, hJx'⟩)
          · have tb := (hKp.new w3.heap.size (by have := OW.out.size; have := HO.out.size; omega) (by rw [World.size_alloc]; omega)).trans (heap_alloc_new w3 _)
            have t0 := (blk5 tb).1.1
            have R4 := hid ((hKp.own).trans (R3.out.alloc _))
            have HJ' := hid hJ'
            have hsz' := hKp.size
            clear tb hJ' hKp
            have h5b : ((kind : Int) == 5) = false := by simp; omega
            gi_wp2
            go_roundw
            case rel =>
              exact ⟨_, W', k1 + size, l1, h1, fuel, HJ'.out, Only.refl _ _, R4.out, by omega, by omega, by omega, by omega, by
                have := OW.out.size
                have := HO.out.size
                rw [World.size_alloc] at hsz'
                omega, by rw [hel.out, HEL.out, List.append_assoc]; rfl⟩
            case measure =>
              rw [leftE_eq R4.out, leftE_eq HR.out]
              omega
          · gi_wp2
            refine bodyPost_ret (results_none rfl _ _ _) rfl ?_
            rw [HP.out]
            exact ⟨⟨_, rfl⟩, .inr ⟨pre, _, _, W', by rw [hel.out, HEL.out], hJx', Only.refl _ _⟩⟩
end Go.Proofs.Ytpaenaofebdgiaa
