/- From: what a walk meets, as an iterator. Condition: fewer than a million instructions. -/
import Derived.Test.YtbmjhkimeeahhaaFlN
namespace Go.Proofs.Ytbmjhkimeeahhaa
open Go.RowKit Go.Maps Go.Shelf
set_option linter.unusedVariables false
set_option linter.unusedSimpArgs false
/-- The walk from a place: what is left, and what is met, in order. -/
def WalkIs (x : CoD) (a : Nat) (l s : List Nat) : Prop := ∃ m, Kids (nxE x) [a] (fun _ => false) l s m
theorem walk_is (x : CoD) (a : Nat) (ha : a < x.ins.length) : ∃ l s, WalkIs x a l s := by
  obtain ⟨l, s, m, h⟩ := kids_ends (nx := nxE x) (N := x.ins.length) (fun k y hy => nxE_lt hy) _ [a] (fun _ => false) (Nat.le_refl _) (fun y hy => by rw [List.mem_singleton] at hy; omega)
  exact ⟨l, s, m, h⟩
theorem WalkIs.lt {x : CoD} {a : Nat} {l s : List Nat} (h : WalkIs x a l s) (ha : a < x.ins.length) : ∀ k ∈ s, k < x.ins.length := by
  obtain ⟨m, h⟩ := h
  intro k hk
  have hw := (walk_ways h k).1 hk
  have : ∀ {a c : Nat}, Way (nxE x) a c → a < x.ins.length → c < x.ins.length := fun hw => by
    induction hw with
    | here a => exact fun h => h
    | step hb _ ih => exact fun _ => ih (nxE_lt hb)
  exact this hw ha
theorem WalkIs.len {x : CoD} {a : Nat} {l s : List Nat} (h : WalkIs x a l s) (ha : a < x.ins.length) : s.length ≤ x.ins.length ∧ l.length = s.length := by
  have hlt := h.lt ha
  obtain ⟨m, h⟩ := h
  exact ⟨nodup_le _ _ h.fresh.2 hlt, h.lens⟩
/-- What From gives. -/
def FromIs (x : CoD) (k : Int) (L : List Nat) : Prop := (inN x.ins.length k = false ∧ L = []) ∨ ∃ a l, k = (a : Nat) ∧ a < x.ins.length ∧ WalkIs x a l L
theorem from_is (x : CoD) (k : Int) : ∃ L, FromIs x k L := by
  cases h : inN x.ins.length k
  · exact ⟨[], .inl ⟨h, rfl⟩⟩
  · have h1 : k = (k.toNat : Nat) ∧ k.toNat < x.ins.length := by simp [inN] at h; omega
    obtain ⟨l, s, hw⟩ := walk_is x k.toNat h1.2
    exact ⟨s, .inr ⟨k.toNat, l, h1.1, h1.2, hw⟩⟩
set_option maxRecDepth 100000 in
set_option maxHeartbeats 8000000 in
theorem from_s (nn : Nat) (hnn : 1 ≤ nn) (x : CoD) (va fa ia : Option Addr) (vc fc ic : Nat) (w0 w : World) (k : Int) (cb ab Nb : Nat) (L : List Nat) (hs : x.ins.length < 1000000) (hC : RowM 13 InAt w0 ia x.ins)
    (hN1 : w0.heap.size ≤ Nb) (hN2 : Nb < w.heap.size) (hold : Below w0.heap.size w0 w) (hcb : w.heap[cb]? = some (.cells (CoV x va vc fa fc ia ic) 30 (0, 0))) (hab : w.heap[ab]? = some (.cells #[.int .i64 k] 3 (0, 0))) (hL : FromIs x k L) :
    SeqLow nn 28 #[.pointer (some ⟨cb, 0, none⟩), .pointer (some ⟨ab, 0, none⟩)] encN Nb L w := by
  intro lo J Jx W hW hl1 hl2 hJ hJx hY h0
  refine callsIn_wide.2 ?_
  show Calls Try.prog 28 #[.func (.yield lo) #[] #[], .pointer (some ⟨cb, 0, none⟩), .pointer (some ⟨ab, 0, none⟩)] W (YieldPost J Jx L)
  have HC1 := hid (lay hW hcb)
  have hc1 := cells_at HC1.out
  have HA1 := hid (lay hW hab)
  have hc2 := cells_at HA1.out
  have HTH : Hid (∀ (r : Bool) (W : World), inN x.ins.length k = r → Calls Try.prog 26 #[.agg #[.string x.nm, .int .i64 x.pr, .slice va x.vs.length vc, .bool x.rt.t.p, .string x.rt.t.name, .int .i64 x.rt.cls, .slice fa x.fr.length fc, .slice ia x.ins.length ic], .int .i64 k] W fun e w' => e = .returned (.bool r) ∧ Hid (Below W.heap.size W w')) :=
    hid (fun r W hr => there_f x va fa ia vc fc ic k r W hr)
  rcases hL with ⟨hk, rfl⟩ | ⟨a, l, rfl, ha, hwk⟩
  · have HK := hid hk
    have HJ := hid hJ
    have H0 := hid h0
    clear hk hJ hJx hY h0 hC hold hcb hab hs hW
    go_enter Try.func28, Try.ntmps28
    go_wp2_with (go_at_call 26; refine (HTH.out _ _ HK.out).mono ?_; rintro e w1 ⟨rfl, hb1⟩; have HB1 := hid hb1.out; clear hb1)
    go_end0
    exact ⟨⟨_, rfl⟩, .inl (HJ.out _ _ _ H0.out HB1.out)⟩
  · have hk : inN x.ins.length (a : Int) = true := by simp [inN]; omega
    have hle : l.length < 1000000 := by have := hwk.len ha; omega
    obtain ⟨m2, hK⟩ := hwk
    have HK := hid hk
    have HCL : Hid (∀ W1, Below W.heap.size W W1 → Calls Try.prog 29 #[.agg #[.string x.nm, .int .i64 x.pr, .slice va x.vs.length vc, .bool x.rt.t.p, .string x.rt.t.name, .int .i64 x.rt.cls, .slice fa x.fr.length fc, .slice ia x.ins.length ic], .int .i64 a, .func (.yield lo) #[] #[], .func (.func 30) #[] #[]] W1 (YieldPost J Jx L)) :=
      hid (fun W1 hb => walk_y nn hnn x va fa ia vc fc ic w0 W1 lo Nb a l L m2 J Jx hs hC hN1 (by have := hW.size; have := hb.size; omega) (by have := hold.size; omega) (by have := hb.size; omega) ha ((hold.trans (hW.mono hold.size)).trans (hb.mono (Nat.le_trans hold.size hW.size))) hK hle
        (fun pre A B hj hb2 => hJ _ _ _ hj (hb2.mono hb.size))
        (fun pre k W2 hj hp hsz => hY pre k W2 hj hp (Nat.le_trans hb.size hsz)) (hJ _ _ _ h0 hb))
    clear hk hJ hJx hY h0 hC hold hcb hab hs hK hW
    go_enter Try.func28, Try.ntmps28
    go_wp2_with (first
      | (go_at_call 26; refine (HTH.out _ _ HK.out).mono ?_; rintro e w1 ⟨rfl, hb1⟩; have HB1 := hid hb1.out; have HC2 := hid (lay hb1.out HC1.out); have hc3 := cells_at HC2.out; have hc4 := cells_at (lay hb1.out HA1.out); clear hb1)
      | (go_at_call 29; refine (HCL.out _ HB1.out).mono ?_; rintro e w2 ⟨⟨v2, rfl⟩, hp⟩; have HP := hid hp; clear hp))
    go_end0
    exact ⟨⟨_, rfl⟩, HP.out⟩
set_option maxRecDepth 100000 in
theorem from_f (cv : Array Value) (hcv : cv.size = 8) (k : Int) (w : World) : Calls Try.prog 16 #[.agg cv, .int .i64 k] w fun e w' => e = .returned (.func (.func 28) #[] #[.pointer (some ⟨w.heap.size, 0, none⟩), .pointer (some ⟨w.heap.size + 1, 0, none⟩)]) ∧ w' = (w.alloc (.cells cv 30)).alloc (.cells #[.int .i64 k] 3) := by
  go_enter Try.func16, Try.ntmps16
  go_wp2
  go_ret
  exact ⟨rfl, rfl⟩
end Go.Proofs.Ytbmjhkimeeahhaa
