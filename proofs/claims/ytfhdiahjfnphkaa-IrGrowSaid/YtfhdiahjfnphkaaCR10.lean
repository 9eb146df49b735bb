/- The types of a module, one by one. No conditions. -/
import Derived.Test.YtfhdiahjfnphkaaCR08
import Derived.Test.YtfhdiahjfnphkaaCR09
namespace Go.Proofs.Ytfhdiahjfnphkaa
open Go.RowKit Go.Maps Go.Shelf
set_option linter.unusedVariables false
set_option linter.unusedSimpArgs false
attribute [local go_sem] Oper.semAt_some
/-- Lists put together. -/
def cum {α β : Type} (g : α → List β) (l : List α) : Nat → List β
  | 0 => []
  | i + 1 => cum g l i ++ (match l[i]? with | some x => g x | none => [])
section
variable {α β : Type} {g : α → List β} {l : List α}
theorem cum_succ {i : Nat} {x : α} (h : l[i]? = some x) : cum g l (i + 1) = cum g l i ++ g x := by simp [cum, h]
theorem cum_pre (i k : Nat) : cum g l i <+: cum g l (i + k) := by
  induction k with
  | zero => exact List.prefix_refl _
  | succ k ih => exact ih.trans (List.prefix_append _ _)
theorem cum_part {i n : Nat} {x : α} (h : l[i]? = some x) (hn : i < n) (j : Nat) : cum g l i ++ (g x).take j <+: cum g l n := by
  have h1 := cum_pre (g := g) (l := l) (i + 1) (n - (i + 1))
  rw [show i + 1 + (n - (i + 1)) = n by omega, cum_succ h] at h1
  exact (List.prefix_append_right_inj _ |>.2 (List.take_prefix _ _)).trans h1
theorem cum_any (p : β → Bool) : ∀ n, n ≤ l.length → (cum g l n).any p = (l.take n).any (fun x => (g x).any p)
  | 0, _ => by simp [cum]
  | n + 1, hn => by
    obtain ⟨x, hx⟩ := get_some (l := l) rfl hn
    rw [cum_succ hx, List.any_append, cum_any p n (by omega), List.take_add_one, hx]
    simp
end
theorem pre_lt' {α : Type} {pre l : List α} {x : α} (h : pre ++ [x] <+: l) : pre.length < l.length := by
  have := h.length_le
  simp at this
  omega
theorem take_snoc {α : Type} {l : List α} {j : Nat} {x : α} (h : l[j]? = some x) : l.take (j + 1) = l.take j ++ [x] := by
  rw [List.take_add_one, h]; rfl
/-- All cells lie as they lay; nothing went. -/
structure KS (W W' : World) : Prop where
  size : W.heap.size ≤ W'.heap.size
  cells : ∀ (k : Nat) (vs : Array Value) (t : TypeId) (z : Nat × Nat), W.heap[k]? = some (.cells vs t z) → W'.heap[k]? = some (.cells vs t z)
theorem KS.refl (W : World) : KS W W := ⟨Nat.le_refl _, fun _ _ _ _ h => h⟩
theorem KS.trans {A B C : World} (h : KS A B) (k : KS B C) : KS A C := ⟨Nat.le_trans h.size k.size, fun i vs t z hi => k.cells i vs t z (h.cells i vs t z hi)⟩
theorem KS.of_below {A B : World} (h : Below A.heap.size A B) : KS A B := ⟨h.size, fun i vs t z hi => old_block h (Array.getElem?_eq_some_iff.1 hi).1 hi⟩
theorem KS.put {n : Nat} (W : World) (l : Nat) (o o' : Obj) (_ : n ≤ l) (hl : W.heap[l]? = some o) (ho : o.isCells = false) (_ : o.isWalk = false) : KS W (W.putObj l o') :=
  ⟨by simp [World.putObj], fun i vs t z hi => (World.putObj_heap_other (fun e => by subst e; rw [hl] at hi; cases hi; cases ho)).trans hi⟩
theorem KS.cell {A B : World} (h : KS A B) {b j : Nat} {v : Value} (hc : A.cell? ⟨b, j, none⟩ = some v) : B.cell? ⟨b, j, none⟩ = some v := by
  unfold World.cell? at hc
  cases ho : A.heap[b]? with
  | none => simp [ho] at hc
  | some o =>
    cases o with
    | cells vs t z => unfold World.cell?; simp only [ho] at hc; simp only [h.cells b vs t z ho]; exact hc
    | _ => simp [ho] at hc
def StaysK {α : Type} (P : World → Nat → Nat → α → Prop) : Prop := ∀ (W W' : World) (b o : Nat) (x : α), KS W W' → P W b o x → P W' b o x
theorem RowM.ks {α : Type} {k : Nat} {P : World → Nat → Nat → α → Prop} (hP : StaysK P) {W W' : World} {A : Option Addr} {l : List α} (h : RowM k P W A l) (hb : KS W W') : RowM k P W' A l := by
  refine ⟨h.1, fun i x hx => ?_⟩
  obtain ⟨b, o, e, hlt, hp⟩ := h.2 i x hx
  exact ⟨b, o, e, Nat.lt_of_lt_of_le hlt hb.size, hP _ _ _ _ _ hb hp⟩
theorem cells_k {W W' : World} {b o : Nat} {vs : Array Value} (hb : KS W W') (h : CellsAt W b o vs) : CellsAt W' b o vs := fun j v hv => hb.cell (h j v hv)
theorem int_k : StaysK IntAt := fun W W' b o x hb h => hb.cell h
theorem va_k : StaysK VaAt := fun W W' b o x hb h => cells_k hb h
theorem fd_k : StaysK FdAt := fun W W' b o x hb h => cells_k hb h
theorem in_k : StaysK InAt := fun W W' b o x hb h => by
  obtain ⟨ao, ac, mo, mc, h1, h2⟩ := h
  exact ⟨ao, ac, mo, mc, cells_k hb h1, h2.xs.ks int_k hb, h2.ms.ks int_k hb⟩
theorem st_k : StaysK StAt := fun W W' b o x hb h => by
  obtain ⟨fa, fc, h1, h2⟩ := h
  exact ⟨fa, fc, cells_k hb h1, h2.ks fd_k hb⟩
theorem co_k : StaysK CoAt := fun W W' b o x hb h => by
  obtain ⟨va, vc, fa, fc, ia, ic, h1, h2⟩ := h
  exact ⟨va, vc, fa, fc, ia, ic, cells_k hb h1, h2.vs.ks va_k hb, h2.fr.ks int_k hb, h2.ins.ks in_k hb⟩
abbrev encT (t : TyD) : Array Value := #[.agg #[.bool t.p, .string t.name]]
theorem abides_a {B : Nat} {J : List TyD → World → Prop} (h : AbidesFrom B J) (s : List TyD) (W : World) (o : Obj) (hs : J s W) : J s (W.alloc o) :=
  h s W _ none hs (World.grownBy_alloc W o none) (fun r e => by cases e)
abbrev allT (ss : List StD) (cs : List CoD) : List TyD := cum tysF ss ss.length ++ cum tysC cs cs.length
theorem unB_all (ss : List StD) (cs : List CoD) : (allT ss cs).any (badB ss) = unB ss cs := by
  rw [List.any_append, cum_any _ _ (Nat.le_refl _), cum_any _ _ (Nat.le_refl _), List.take_length, List.take_length, unB]
set_option maxRecDepth 100000 in
set_option maxHeartbeats 8000000 in
theorem types_g (q : Nat) (hq1 : 1 ≤ q) (ss : List StD) (cs : List CoD) (n m : Nat) (hn : ss.length = n) (hm : cs.length = m) (sa ca : Option Addr) (sc cc M : Nat) (w : World) (h1 : RowM 4 StAt w sa ss) (h2 : RowM 8 CoAt w ca cs) (hM : w.heap[M]? = some (.cells #[.slice sa n sc, .slice ca m cc] 25 (0, 0))) :
    SeqStopsK Fence.wide q Try.prog 49 #[.pointer (some ⟨M, 0, none⟩)] encT KS (fun xs => xs = allT ss cs) (fun pre => pre <+: allT ss cs) (allT ss cs).length w := by
  have hl1 : n ≤ 9223372036854775807 := hn ▸ h1.1
  have hl2 : m ≤ 9223372036854775807 := hm ▸ h2.1
  intro l J Jx W hW hJ hJx hY h0
  have HN := hid hn
  have HM := hid hm
  have H1 := hid (fun W' (k : KS W W') => h1.ks st_k ((KS.of_below hW).trans k))
  have H2 := hid (fun W' (k : KS W W') => h2.ks co_k ((KS.of_below hW).trans k))
  have HMM := hid (old_block hW (Array.getElem?_eq_some_iff.1 hM).1 hM)
  have hmm := cells_at HMM.out
  have HJ := hid hJ
  have HY := hid hY
  have HJ0 : Hid (J (cum tysF ss 0) W) := hid h0
  have HK0 := hid (KS.refl W)
  have HPS : Hid (∀ k x j, k < n → ss[k]? = some x → cum tysF ss k ++ (tysF x).take j <+: allT ss cs) := hid (fun k x j hk hx => by
    refine (cum_part hx hk j).trans ?_
    rw [allT, hn]
    exact List.prefix_append _ _)
  have HPC : Hid (∀ k x j, k < m → cs[k]? = some x → cum tysF ss n ++ (cum tysC cs k ++ (tysC x).take j) <+: allT ss cs) := hid (fun k x j hk hx => by
    rw [allT, hn, hm]
    exact (List.prefix_append_right_inj _).2 (cum_part hx hk j))
  have HEnd : Hid (cum tysF ss n ++ cum tysC cs m = allT ss cs) := hid (by rw [allT, hn, hm])
  clear hn hm h1 h2 hM hW hJ hJx hY h0
  obtain ⟨L, hL⟩ : ∃ L, allT ss cs = L := ⟨_, rfl⟩
  rw [hL] at HY HPS HPC HEnd ⊢
  clear hL
  refine callsIn_of_wp Try.func49 rfl trivial ?_ rfl
  simp only [Try.ntmps49, List.size_toArray, List.length_cons, List.length_nil, Nat.reduceAdd, Nat.reduceSub, Array.replicate_succ, Array.replicate_zero, List.push_toArray, List.append_toArray, List.nil_append, List.cons_append]
  gi_wp2
  clear hmm
  gi_loopw [14] (fun p wr => ∃ k : Nat, k ≤ n ∧ p = .int .i64 k ∧ Hid (J (cum tysF ss k) wr) ∧ Hid (KS W wr)) (fun p wr => n - (intOf p).toNat)
  case atStart => exact ⟨0, by omega, rfl, HJ0, HK0⟩
  case round =>
    obtain ⟨k, hkn, rfl, HJ1, HK1⟩ := hrel
    clear HJ0 HK0
    by_cases hlt : k < n
    · have hlt' : (k : Int) < (n : Int) := by omega
      obtain ⟨x, hx⟩ := get_some HN.out hlt
      obtain ⟨b, o, rfl, hb1, fa, fc, hc1, hf1⟩ := (H1.out _ HK1.out).2 k x hx
      have d0 := hc1 0 _ rfl
      have d1 := hc1 1 _ rfl
      have d2 := hc1 2 _ rfl
      have d3 := hc1 3 _ rfl
      simp only [Nat.add_zero] at d0
      have hB := below1 wr (.cells (StV x fa fc) 47)
      have HF := hid (hf1.ks fd_k (KS.of_below hB))
      have HJ2 := hid (abides_a HJ.out _ _ (.cells (StV x fa fc) 47) HJ1.out)
      have HK2 := hid (HK1.out.trans (KS.of_below hB))
      have HXX := hid hx
      have HPk := hid (fun j => HPS.out k x j hlt hx)
      clear hx hc1 hf1 hB HJ1 HK1
      gi_wp2
      obtain ⟨W2, hW2⟩ : ∃ W2, wr.alloc (.cells (StV x fa fc) 47) = W2 := ⟨_, rfl⟩
      rw [hW2] at HF HJ2 HK2 ⊢
      obtain ⟨e, he⟩ : ∃ e, x.fs.length = e := ⟨_, rfl⟩
      have he2 : e ≤ 9223372036854775807 := by rw [← he]; exact HF.out.1
      have HE := hid he
      rw [he]
      have HLen : Hid ((tysF x).length = e) := hid (by rw [tysF, List.length_map, he])
      have HJ3 : Hid (J (cum tysF ss k ++ (tysF x).take 0) W2) := hid (by simpa using HJ2.out)
      clear hW2 he d0 d1 d2 d3 HJ2
      gi_loopw [21] (fun p wr2 => ∃ j : Nat, j ≤ e ∧ p = .int .i64 j ∧ Hid (J (cum tysF ss k ++ (tysF x).take j) wr2) ∧ Hid (KS W wr2) ∧ Hid (RowM 5 FdAt wr2 fa x.fs)) (fun p wr2 => e - (intOf p).toNat)
      case atStart => exact ⟨0, by omega, rfl, HJ3, HK2, HF⟩
      case round =>
        obtain ⟨j, hj, rfl, HJ4, HK4, HF4⟩ := hrel
        clear HJ3 HK2 HF
        by_cases hlj : j < e
        · have hlj' : (j : Int) < (e : Int) := by omega
          obtain ⟨u, hu⟩ := get_some HE.out hlj
          obtain ⟨b3, o3, rfl, hb3, hc3⟩ := HF4.out.2 j u hu
          have d0 := hc3 0 _ rfl
          have d1 := hc3 1 _ rfl
          have d2 := hc3 2 _ rfl
          have d3 := hc3 3 _ rfl
          have d4 := hc3 4 _ rfl
          simp only [Nat.add_zero] at d0
          have hT : (tysF x)[j]? = some u.t := by rw [tysF, List.getElem?_map, hu]; rfl
          have HT := hid (take_snoc hT)
          have HPre : Hid ((cum tysF ss k ++ (tysF x).take j) ++ [u.t] <+: L) := hid (by
            have := HPk.out (j + 1)
            rw [HT.out, ← List.append_assoc] at this
            exact this)
          have hB := fun (X : World) => below1 X (.cells (FdV u) 62)
          have HJ5 := hid (abides_a HJ.out _ _ (.cells (FdV u) 62) HJ4.out)
          have HK5 := hid (HK4.out.trans (KS.of_below (hB _)))
          have HF5 := hid (HF4.out.ks fd_k (KS.of_below (hB _)))
          clear hu hc3 hT hB HJ4 HK4 HF4
          obtain ⟨fn, tmps, assign, body, hy, hR⟩ := HY.out _ u.t _ HJ5.out (pre_lt' HPre.out)
          gi_wp2
          refine hR.mono ?_
          rintro e1 W6 (⟨rfl, hJ6, hk6⟩ | ⟨rfl, hJx6⟩)
          · have HJ6 : Hid (J (cum tysF ss k ++ (tysF x).take (j + 1)) W6) := hid (by rw [HT.out, ← List.append_assoc]; exact hJ6)
            have HK6 := hid (HK5.out.trans hk6)
            have HF6 := hid (HF5.out.ks fd_k hk6)
            clear hJ6 hk6 d0 d1 d2 d3 d4
            gi_wp2
            go_roundw
            case rel => exact ⟨j + 1, by omega, rfl, HJ6, HK6, HF6⟩
            case measure => simp [intOf]; omega
          · gi_wp2
            refine bodyPost_ret (results_none rfl _ _ _) rfl ?_
            exact ⟨⟨_, rfl⟩, .inr ⟨_, HPre.out, hJx6⟩⟩
        · have hlj' : ¬ (j : Int) < (e : Int) := by omega
          have hJ6 := HJ4.out
          rw [List.take_of_length_le (by rw [HLen.out]; omega), ← cum_succ HXX.out] at hJ6
          have HJ6 := hid hJ6
          clear hJ6
          gi_wp2
          go_roundw
          case rel => exact ⟨k + 1, by omega, rfl, HJ6, HK4⟩
          case measure => simp [intOf]; omega
    · have hlt' : ¬ (k : Int) < (n : Int) := by omega
      obtain rfl : k = n := by omega
      have hmm := cells_at (HK1.out.cells _ _ _ _ HMM.out)
      have HJ1c : Hid (J (cum tysF ss k ++ cum tysC cs 0) wr) := hid (by simpa [cum] using HJ1.out)
      clear HJ1
      gi_wp2
      clear hmm
      gi_loopw [35] (fun p wr2 => ∃ i : Nat, i ≤ m ∧ p = .int .i64 i ∧ Hid (J (cum tysF ss k ++ cum tysC cs i) wr2) ∧ Hid (KS W wr2)) (fun p wr2 => m - (intOf p).toNat)
      case atStart => exact ⟨0, by omega, rfl, HJ1c, HK1⟩
      case round =>
        obtain ⟨i, him, rfl, HJ1, HK2⟩ := hrel
        clear HJ1c HK1
        by_cases hli : i < m
        · have hli' : (i : Int) < (m : Int) := by omega
          obtain ⟨x, hx⟩ := get_some HM.out hli
          obtain ⟨b, o, rfl, hb1, va, vc, fa, fc, ia, ic, hc1, hcm⟩ := (H2.out _ HK2.out).2 i x hx
          have d0 := hc1 0 _ rfl
          have d1 := hc1 1 _ rfl
          have d2 := hc1 2 _ rfl
          have d3 := hc1 3 _ rfl
          have d4 := hc1 4 _ rfl
          have d5 := hc1 5 _ rfl
          have d6 := hc1 6 _ rfl
          have d7 := hc1 7 _ rfl
          simp only [Nat.add_zero] at d0
          have hB := fun (X : World) => below1 X (.cells (CoV x va vc fa fc ia ic) 37)
          have HJ2 := hid (abides_a HJ.out _ _ (.cells (CoV x va vc fa fc ia ic) 37) HJ1.out)
          have HK3 := hid (HK2.out.trans (KS.of_below (hB _)))
          have HV := hid (hcm.vs.ks va_k (KS.of_below (hB _)))
          have HXX := hid hx
          have HPk := hid (fun j => HPC.out i x j hli hx)
          have HX := hid (fun (X : World) => heap_alloc_new X (.cells (CoV x va vc fa fc ia ic) 37))
          have hxx := fun (X : World) => cells_at (HX.out X)
          have HPre : Hid ((cum tysF ss k ++ cum tysC cs i) ++ [x.rt.t] <+: L) := hid (by
            have := HPk.out 1
            rw [show (tysC x).take 1 = [x.rt.t] from rfl, ← List.append_assoc] at this
            exact this)
          clear hx hc1 hcm hB HJ1 HK2
          obtain ⟨fn, tmps, assign, body, hy, hR⟩ := HY.out _ x.rt.t _ HJ2.out (pre_lt' HPre.out)
          gi_wp2
          refine hR.mono ?_
          rintro e1 W6 (⟨rfl, hJ6, hk6⟩ | ⟨rfl, hJx6⟩)
          · have HJ6 : Hid (J (cum tysF ss k ++ (cum tysC cs i ++ (tysC x).take 1)) W6) := hid (by rw [show (tysC x).take 1 = [x.rt.t] from rfl, ← List.append_assoc]; exact hJ6)
            have HK6 := hid (HK3.out.trans hk6)
            have HV6 := hid (HV.out.ks va_k hk6)
            have hxy := cells_at (hk6.cells _ _ _ _ (HX.out _))
            obtain ⟨e, he⟩ : ∃ e, x.vs.length = e := ⟨_, rfl⟩
            have he2 : e ≤ 9223372036854775807 := by rw [← he]; exact HV6.out.1
            have HE := hid he
            have HLen : Hid ((tysC x).length = e + 1) := hid (by rw [tysC, List.length_cons, List.length_map, he])
            clear hJ6 hk6 d0 d1 d2 d3 d4 d5 d6 d7 HX hxx
            clear he
            gi_wp2
            rw [HE.out]
            clear hxy
            gi_loopw [48] (fun p wr3 => ∃ j : Nat, j ≤ e ∧ p = .int .i64 j ∧ Hid (J (cum tysF ss k ++ (cum tysC cs i ++ (tysC x).take (1 + j))) wr3) ∧ Hid (KS W wr3) ∧ Hid (RowM 3 VaAt wr3 va x.vs)) (fun p wr3 => e - (intOf p).toNat)
            case atStart => exact ⟨0, by omega, rfl, HJ6, HK6, HV6⟩
            case round =>
              obtain ⟨j, hj, rfl, HJ4, HK4, HV4⟩ := hrel
              clear HJ6 HK6 HV6 HJ2 HK3 HV
              by_cases hlj : j < e
              · have hlj' : (j : Int) < (e : Int) := by omega
                obtain ⟨u, hu⟩ := get_some HE.out hlj
                obtain ⟨b3, o3, rfl, hb3, hc3⟩ := HV4.out.2 j u hu
                have d0 := hc3 0 _ rfl
                have d1 := hc3 1 _ rfl
                have d2 := hc3 2 _ rfl
                simp only [Nat.add_zero] at d0
                have hT : (tysC x)[1 + j]? = some u.t := by rw [tysC, Nat.add_comm, List.getElem?_cons_succ, List.getElem?_map, hu]; rfl
                have HT := hid (take_snoc hT)
                have HPre2 : Hid ((cum tysF ss k ++ (cum tysC cs i ++ (tysC x).take (1 + j))) ++ [u.t] <+: L) := hid (by
                  have := HPk.out (1 + j + 1)
                  rw [HT.out, ← List.append_assoc, ← List.append_assoc] at this
                  rw [← List.append_assoc]
                  exact this)
                have hB := fun (X : World) => below1 X (.cells (VaV u) 33)
                have HJ5 := hid (abides_a HJ.out _ _ (.cells (VaV u) 33) HJ4.out)
                have HK5 := hid (HK4.out.trans (KS.of_below (hB _)))
                have HV5 := hid (HV4.out.ks va_k (KS.of_below (hB _)))
                clear hu hc3 hT hB HJ4 HK4 HV4
                obtain ⟨fn, tmps, assign, body, hy, hR⟩ := HY.out _ u.t _ HJ5.out (pre_lt' HPre2.out)
                gi_wp2
                refine hR.mono ?_
                rintro e1 W7 (⟨rfl, hJ7, hk7⟩ | ⟨rfl, hJx7⟩)
                · have HJ7 : Hid (J (cum tysF ss k ++ (cum tysC cs i ++ (tysC x).take (1 + (j + 1)))) W7) := hid (by
                    rw [show 1 + (j + 1) = 1 + j + 1 from rfl, HT.out]
                    rw [← List.append_assoc (cum tysC cs i), ← List.append_assoc]
                    rw [← List.append_assoc] at hJ7
                    rw [← List.append_assoc]
                    exact hJ7)
                  have HK7 := hid (HK5.out.trans hk7)
                  have HV7 := hid (HV5.out.ks va_k hk7)
                  clear hJ7 hk7 d0 d1 d2
                  gi_wp2
                  go_roundw
                  case rel => exact ⟨j + 1, by omega, rfl, HJ7, HK7, HV7⟩
                  case measure => simp [intOf]; omega
                · gi_wp2
                  refine bodyPost_ret (results_none rfl _ _ _) rfl ?_
                  exact ⟨⟨_, rfl⟩, .inr ⟨_, HPre2.out, hJx7⟩⟩
              · have hlj' : ¬ (j : Int) < (e : Int) := by omega
                have hJ6 := HJ4.out
                rw [List.take_of_length_le (by rw [HLen.out]; omega), ← cum_succ HXX.out] at hJ6
                have HJ6 := hid hJ6
                clear hJ6
                gi_wp2
                go_roundw
                case rel => exact ⟨i + 1, by omega, rfl, HJ6, HK4⟩
                case measure => simp [intOf]; omega
          · gi_wp2
            refine bodyPost_ret (results_none rfl _ _ _) rfl ?_
            exact ⟨⟨_, rfl⟩, .inr ⟨_, HPre.out, hJx6⟩⟩
        · have hli' : ¬ (i : Int) < (m : Int) := by omega
          obtain rfl : i = m := by omega
          gi_wp2
          go_end0
          have hE := HJ1.out
          rw [HEnd.out] at hE
          exact ⟨⟨_, rfl⟩, .inl hE⟩
theorem types_fg (m : Array Value) (hm : m.size = 2) (w : World) : Calls Try.prog 35 #[.agg m] w fun e w' => e = .returned (.func (.func 49) #[] #[.pointer (some ⟨w.heap.size, 0, none⟩)]) ∧ w' = w.alloc (.cells m 25) := types_f m hm w
end Go.Proofs.Ytfhdiahjfnphkaa
