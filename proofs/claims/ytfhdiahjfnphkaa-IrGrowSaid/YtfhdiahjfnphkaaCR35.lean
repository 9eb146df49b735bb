/- The types of a module, one by one: the body sees none but these. No conditions. -/
import Derived.Test.YtfhdiahjfnphkaaCR10
namespace Go.Proofs.Ytfhdiahjfnphkaa
open Go.RowKit Go.Maps Go.Shelf
set_option linter.unusedVariables false
set_option linter.unusedSimpArgs false
attribute [local go_sem] Oper.semAt_some
set_option maxRecDepth 100000 in
set_option maxHeartbeats 8000000 in
theorem types_m (q : Nat) (hq1 : 1 ≤ q) (ss : List StD) (cs : List CoD) (n m : Nat) (hn : ss.length = n) (hm : cs.length = m) (sa ca : Option Addr) (sc cc M : Nat) (w : World) (h1 : RowM 4 StAt w sa ss) (h2 : RowM 8 CoAt w ca cs) (hM : w.heap[M]? = some (.cells #[.slice sa n sc, .slice ca m cc] 25 (0, 0)))
    (l : Nat) (J Jx : List TyD → World → Prop) (W : World) (hW : Below w.heap.size w W) (hJ : AbidesFrom W.heap.size J) (hJx : AbidesFrom W.heap.size Jx)
    (hY : ∀ pre x W1, J pre W1 → pre ++ [x] <+: allT ss cs → YieldAt Fence.wide (q - 1) Try.prog l (encT x) W1 fun e W' =>
      (e = .returned (.bool true) ∧ J (pre ++ [x]) W' ∧ KS W1 W') ∨ (e = .returned (.bool false) ∧ Jx (pre ++ [x]) W')) (h0 : J [] W) :
    CallsIn Fence.wide q Try.prog 49 (#[.func (.yield l) #[] #[]] ++ #[.pointer (some ⟨M, 0, none⟩)]) W fun e W' => (∃ v, e = .returned v) ∧ ((∃ xs, xs = allT ss cs ∧ J xs W') ∨ (∃ pre, pre <+: allT ss cs ∧ Jx pre W')) := by
  have hl1 : n ≤ 9223372036854775807 := hn ▸ h1.1
  have hl2 : m ≤ 9223372036854775807 := hm ▸ h2.1
  have HN := hid hn
  have HM := hid hm
  have H1 := hid (fun W' (k : KS W W') => h1.ks st_k ((KS.of_below hW).trans k))
  have H2 := hid (fun W' (k : KS W W') => h2.ks co_k ((KS.of_below hW).trans k))
  have HMM := hid (old_block hW (Array.getElem?_eq_some_iff.1 hM).1 hM)
  have hmm := cells_at HMM.out
  have HJ := hid hJ
  have HY := hid hY
  have HJ0 : Hid (J (cum tysF ss 0) W) := hid h0
  have HK0 := hid (KS.refl W)
  have HPS : Hid (∀ k x j, k < n → ss[k]? = some x → cum tysF ss k ++ (tysF x).take j <+: allT ss cs) := hid (fun k x j hk hx => by
    refine (cum_part hx hk j).trans ?_
    rw [allT, hn]
    exact List.prefix_append _ _)
  have HPC : Hid (∀ k x j, k < m → cs[k]? = some x → cum tysF ss n ++ (cum tysC cs k ++ (tysC x).take j) <+: allT ss cs) := hid (fun k x j hk hx => by
    rw [allT, hn, hm]
    exact (List.prefix_append_right_inj _).2 (cum_part hx hk j))
  have HEnd : Hid (cum tysF ss n ++ cum tysC cs m = allT ss cs) := hid (by rw [allT, hn, hm])
  clear hn hm h1 h2 hM hW hJ hJx hY h0
  obtain ⟨L, hL⟩ : ∃ L, allT ss cs = L := ⟨_, rfl⟩
  rw [hL] at HY HPS HPC HEnd ⊢
  clear hL
  refine callsIn_of_wp Try.func49 rfl trivial ?_ rfl
  simp only [Try.ntmps49, List.size_toArray, List.length_cons, List.length_nil, Nat.reduceAdd, Nat.reduceSub, Array.replicate_succ, Array.replicate_zero, List.push_toArray, List.append_toArray, List.nil_append, List.cons_append]
  gi_wp2
  clear hmm
  gi_loopw [14] (fun p wr => ∃ k : Nat, k ≤ n ∧ p = .int .i64 k ∧ Hid (J (cum tysF ss k) wr) ∧ Hid (KS W wr)) (fun p wr => n - (intOf p).toNat)
  case atStart => exact ⟨0, by omega, rfl, HJ0, HK0⟩
  case round =>
    obtain ⟨k, hkn, rfl, HJ1, HK1⟩ := hrel
    clear HJ0 HK0
    by_cases hlt : k < n
    · have hlt' : (k : Int) < (n : Int) := by omega
      obtain ⟨x, hx⟩ := get_some HN.out hlt
      obtain ⟨b, o, rfl, hb1, fa, fc, hc1, hf1⟩ := (H1.out _ HK1.out).2 k x hx
      have d0 := hc1 0 _ rfl
      have d1 := hc1 1 _ rfl
      have d2 := hc1 2 _ rfl
      have d3 := hc1 3 _ rfl
      simp only [Nat.add_zero] at d0
      have hB := below1 wr (.cells (StV x fa fc) 47)
      have HF := hid (hf1.ks fd_k (KS.of_below hB))
      have HJ2 := hid (abides_a HJ.out _ _ (.cells (StV x fa fc) 47) HJ1.out)
      have HK2 := hid (HK1.out.trans (KS.of_below hB))
      have HXX := hid hx
      have HPk := hid (fun j => HPS.out k x j hlt hx)
      clear hx hc1 hf1 hB HJ1 HK1
      gi_wp2
      obtain ⟨W2, hW2⟩ : ∃ W2, wr.alloc (.cells (StV x fa fc) 47) = W2 := ⟨_, rfl⟩
      rw [hW2] at HF HJ2 HK2 ⊢
      obtain ⟨e, he⟩ : ∃ e, x.fs.length = e := ⟨_, rfl⟩
      have he2 : e ≤ 9223372036854775807 := by rw [← he]; exact HF.out.1
      have HE := hid he
      rw [he]
      have HLen : Hid ((tysF x).length = e) := hid (by rw [tysF, List.length_map, he])
      have HJ3 : Hid (J (cum tysF ss k ++ (tysF x).take 0) W2) := hid (by simpa using HJ2.out)
      clear hW2 he d0 d1 d2 d3 HJ2
      gi_loopw [21] (fun p wr2 => ∃ j : Nat, j ≤ e ∧ p = .int .i64 j ∧ Hid (J (cum tysF ss k ++ (tysF x).take j) wr2) ∧ Hid (KS W wr2) ∧ Hid (RowM 5 FdAt wr2 fa x.fs)) (fun p wr2 => e - (intOf p).toNat)
      case atStart => exact ⟨0, by omega, rfl, HJ3, HK2, HF⟩
      case round =>
        obtain ⟨j, hj, rfl, HJ4, HK4, HF4⟩ := hrel
        clear HJ3 HK2 HF
        by_cases hlj : j < e
        · have hlj' : (j : Int) < (e : Int) := by omega
          obtain ⟨u, hu⟩ := get_some HE.out hlj
          obtain ⟨b3, o3, rfl, hb3, hc3⟩ := HF4.out.2 j u hu
          have d0 := hc3 0 _ rfl
          have d1 := hc3 1 _ rfl
          have d2 := hc3 2 _ rfl
          have d3 := hc3 3 _ rfl
          have d4 := hc3 4 _ rfl
          simp only [Nat.add_zero] at d0
          have hT : (tysF x)[j]? = some u.t := by rw [tysF, List.getElem?_map, hu]; rfl
          have HT := hid (take_snoc hT)
          have HPre : Hid ((cum tysF ss k ++ (tysF x).take j) ++ [u.t] <+: L) := hid (by
            have := HPk.out (j + 1)
            rw [HT.out, ← List.append_assoc] at this
            exact this)
          have hB := fun (X : World) => below1 X (.cells (FdV u) 62)
          have HJ5 := hid (abides_a HJ.out _ _ (.cells (FdV u) 62) HJ4.out)
          have HK5 := hid (HK4.out.trans (KS.of_below (hB _)))
          have HF5 := hid (HF4.out.ks fd_k (KS.of_below (hB _)))
          clear hu hc3 hT hB HJ4 HK4 HF4
          obtain ⟨fn, tmps, assign, body, hy, hR⟩ := HY.out _ u.t _ HJ5.out HPre.out
          gi_wp2
          refine hR.mono ?_
          rintro e1 W6 (⟨rfl, hJ6, hk6⟩ | ⟨rfl, hJx6⟩)
          · have HJ6 : Hid (J (cum tysF ss k ++ (tysF x).take (j + 1)) W6) := hid (by rw [HT.out, ← List.append_assoc]; exact hJ6)
            have HK6 := hid (HK5.out.trans hk6)
            have HF6 := hid (HF5.out.ks fd_k hk6)
            clear hJ6 hk6 d0 d1 d2 d3 d4
            gi_wp2
            go_roundw
            case rel => exact ⟨j + 1, by omega, rfl, HJ6, HK6, HF6⟩
            case measure => simp [intOf]; omega
          · gi_wp2
            refine bodyPost_ret (results_none rfl _ _ _) rfl ?_
            exact ⟨⟨_, rfl⟩, .inr ⟨_, HPre.out, hJx6⟩⟩
        · have hlj' : ¬ (j : Int) < (e : Int) := by omega
          have hJ6 := HJ4.out
          rw [List.take_of_length_le (by rw [HLen.out]; omega), ← cum_succ HXX.out] at hJ6
          have HJ6 := hid hJ6
          clear hJ6
          gi_wp2
          go_roundw
          case rel => exact ⟨k + 1, by omega, rfl, HJ6, HK4⟩
          case measure => simp [intOf]; omega
    · have hlt' : ¬ (k : Int) < (n : Int) := by omega
      obtain rfl : k = n := by omega
      have hmm := cells_at (HK1.out.cells _ _ _ _ HMM.out)
      have HJ1c : Hid (J (cum tysF ss k ++ cum tysC cs 0) wr) := hid (by simpa [cum] using HJ1.out)
      clear HJ1
      gi_wp2
      clear hmm
      gi_loopw [35] (fun p wr2 => ∃ i : Nat, i ≤ m ∧ p = .int .i64 i ∧ Hid (J (cum tysF ss k ++ cum tysC cs i) wr2) ∧ Hid (KS W wr2)) (fun p wr2 => m - (intOf p).toNat)
      case atStart => exact ⟨0, by omega, rfl, HJ1c, HK1⟩
      case round =>
        obtain ⟨i, him, rfl, HJ1, HK2⟩ := hrel
        clear HJ1c HK1
        by_cases hli : i < m
        · have hli' : (i : Int) < (m : Int) := by omega
          obtain ⟨x, hx⟩ := get_some HM.out hli
          obtain ⟨b, o, rfl, hb1, va, vc, fa, fc, ia, ic, hc1, hcm⟩ := (H2.out _ HK2.out).2 i x hx
          have d0 := hc1 0 _ rfl
          have d1 := hc1 1 _ rfl
          have d2 := hc1 2 _ rfl
          have d3 := hc1 3 _ rfl
          have d4 := hc1 4 _ rfl
          have d5 := hc1 5 _ rfl
          have d6 := hc1 6 _ rfl
          have d7 := hc1 7 _ rfl
          simp only [Nat.add_zero] at d0
          have hB := fun (X : World) => below1 X (.cells (CoV x va vc fa fc ia ic) 37)
          have HJ2 := hid (abides_a HJ.out _ _ (.cells (CoV x va vc fa fc ia ic) 37) HJ1.out)
          have HK3 := hid (HK2.out.trans (KS.of_below (hB _)))
          have HV := hid (hcm.vs.ks va_k (KS.of_below (hB _)))
          have HXX := hid hx
          have HPk := hid (fun j => HPC.out i x j hli hx)
          have HX := hid (fun (X : World) => heap_alloc_new X (.cells (CoV x va vc fa fc ia ic) 37))
          have hxx := fun (X : World) => cells_at (HX.out X)
          have HPre : Hid ((cum tysF ss k ++ cum tysC cs i) ++ [x.rt.t] <+: L) := hid (by
            have := HPk.out 1
            rw [show (tysC x).take 1 = [x.rt.t] from rfl, ← List.append_assoc] at this
            exact this)
          clear hx hc1 hcm hB HJ1 HK2
          obtain ⟨fn, tmps, assign, body, hy, hR⟩ := HY.out _ x.rt.t _ HJ2.out HPre.out
          gi_wp2
          refine hR.mono ?_
          rintro e1 W6 (⟨rfl, hJ6, hk6⟩ | ⟨rfl, hJx6⟩)
          · have HJ6 : Hid (J (cum tysF ss k ++ (cum tysC cs i ++ (tysC x).take 1)) W6) := hid (by rw [show (tysC x).take 1 = [x.rt.t] from rfl, ← List.append_assoc]; exact hJ6)
            have HK6 := hid (HK3.out.trans hk6)
            have HV6 := hid (HV.out.ks va_k hk6)
            have hxy := cells_at (hk6.cells _ _ _ _ (HX.out _))
            obtain ⟨e, he⟩ : ∃ e, x.vs.length = e := ⟨_, rfl⟩
            have he2 : e ≤ 9223372036854775807 := by rw [← he]; exact HV6.out.1
            have HE := hid he
            have HLen : Hid ((tysC x).length = e + 1) := hid (by rw [tysC, List.length_cons, List.length_map, he])
            clear hJ6 hk6 d0 d1 d2 d3 d4 d5 d6 d7 HX hxx
            clear he
            gi_wp2
            rw [HE.out]
            clear hxy
            gi_loopw [48] (fun p wr3 => ∃ j : Nat, j ≤ e ∧ p = .int .i64 j ∧ Hid (J (cum tysF ss k ++ (cum tysC cs i ++ (tysC x).take (1 + j))) wr3) ∧ Hid (KS W wr3) ∧ Hid (RowM 3 VaAt wr3 va x.vs)) (fun p wr3 => e - (intOf p).toNat)
            case atStart => exact ⟨0, by omega, rfl, HJ6, HK6, HV6⟩
            case round =>
              obtain ⟨j, hj, rfl, HJ4, HK4, HV4⟩ := hrel
              clear HJ6 HK6 HV6 HJ2 HK3 HV
              by_cases hlj : j < e
              · have hlj' : (j : Int) < (e : Int) := by omega
                obtain ⟨u, hu⟩ := get_some HE.out hlj
                obtain ⟨b3, o3, rfl, hb3, hc3⟩ := HV4.out.2 j u hu
                have d0 := hc3 0 _ rfl
                have d1 := hc3 1 _ rfl
                have d2 := hc3 2 _ rfl
                simp only [Nat.add_zero] at d0
                have hT : (tysC x)[1 + j]? = some u.t := by rw [tysC, Nat.add_comm, List.getElem?_cons_succ, List.getElem?_map, hu]; rfl
                have HT := hid (take_snoc hT)
                have HPre2 : Hid ((cum tysF ss k ++ (cum tysC cs i ++ (tysC x).take (1 + j))) ++ [u.t] <+: L) := hid (by
                  have := HPk.out (1 + j + 1)
                  rw [HT.out, ← List.append_assoc, ← List.append_assoc] at this
                  rw [← List.append_assoc]
                  exact this)
                have hB := fun (X : World) => below1 X (.cells (VaV u) 33)
                have HJ5 := hid (abides_a HJ.out _ _ (.cells (VaV u) 33) HJ4.out)
                have HK5 := hid (HK4.out.trans (KS.of_below (hB _)))
                have HV5 := hid (HV4.out.ks va_k (KS.of_below (hB _)))
                clear hu hc3 hT hB HJ4 HK4 HV4
                obtain ⟨fn, tmps, assign, body, hy, hR⟩ := HY.out _ u.t _ HJ5.out HPre2.out
                gi_wp2
                refine hR.mono ?_
                rintro e1 W7 (⟨rfl, hJ7, hk7⟩ | ⟨rfl, hJx7⟩)
                · have HJ7 : Hid (J (cum tysF ss k ++ (cum tysC cs i ++ (tysC x).take (1 + (j + 1)))) W7) := hid (by
                    rw [show 1 + (j + 1) = 1 + j + 1 from rfl, HT.out]
                    rw [← List.append_assoc (cum tysC cs i), ← List.append_assoc]
                    rw [← List.append_assoc] at hJ7
                    rw [← List.append_assoc]
                    exact hJ7)
                  have HK7 := hid (HK5.out.trans hk7)
                  have HV7 := hid (HV5.out.ks va_k hk7)
                  clear hJ7 hk7 d0 d1 d2
                  gi_wp2
                  go_roundw
                  case rel => exact ⟨j + 1, by omega, rfl, HJ7, HK7, HV7⟩
                  case measure => simp [intOf]; omega
                · gi_wp2
                  refine bodyPost_ret (results_none rfl _ _ _) rfl ?_
                  exact ⟨⟨_, rfl⟩, .inr ⟨_, HPre2.out, hJx7⟩⟩
              · have hlj' : ¬ (j : Int) < (e : Int) := by omega
                have hJ6 := HJ4.out
                rw [List.take_of_length_le (by rw [HLen.out]; omega), ← cum_succ HXX.out] at hJ6
                have HJ6 := hid hJ6
                clear hJ6
                gi_wp2
                go_roundw
                case rel => exact ⟨i + 1, by omega, rfl, HJ6, HK4⟩
                case measure => simp [intOf]; omega
          · gi_wp2
            refine bodyPost_ret (results_none rfl _ _ _) rfl ?_
            exact ⟨⟨_, rfl⟩, .inr ⟨_, HPre.out, hJx6⟩⟩
        · have hli' : ¬ (i : Int) < (m : Int) := by omega
          obtain rfl : i = m := by omega
          gi_wp2
          go_end0
          have hE := HJ1.out
          rw [HEnd.out] at hE
          exact ⟨⟨_, rfl⟩, .inl hE⟩
/-- A type of the module. -/
abbrev OneT (ss : List StD) (cs : List CoD) := {t : TyD // t ∈ allT ss cs}
theorem types_o (q : Nat) (hq1 : 1 ≤ q) (ss : List StD) (cs : List CoD) (n m : Nat) (hn : ss.length = n) (hm : cs.length = m) (sa ca : Option Addr) (sc cc M : Nat) (w : World) (h1 : RowM 4 StAt w sa ss) (h2 : RowM 8 CoAt w ca cs) (hM : w.heap[M]? = some (.cells #[.slice sa n sc, .slice ca m cc] 25 (0, 0))) :
    SeqStopsK Fence.wide q Try.prog 49 #[.pointer (some ⟨M, 0, none⟩)] (fun x : OneT ss cs => encT x.1) KS (fun xs => xs.map (·.1) = allT ss cs) (fun pre => pre.map (·.1) <+: allT ss cs) (allT ss cs).length w := by
  intro l J Jx W hW hJ hJx hY h0
  have lift : ∀ {K : List (OneT ss cs) → World → Prop}, AbidesFrom W.heap.size K → AbidesFrom W.heap.size (fun (s : List TyD) X => ∃ s' : List (OneT ss cs), s'.map (·.1) = s ∧ K s' X) := by
    intro K hK s A B row hs hg hr
    obtain ⟨s', e, h⟩ := hs
    exact ⟨s', e, hK s' A B row h hg hr⟩
  refine (types_m q hq1 ss cs n m hn hm sa ca sc cc M w h1 h2 hM l (fun s X => ∃ s' : List (OneT ss cs), s'.map (·.1) = s ∧ J s' X) (fun s X => ∃ s' : List (OneT ss cs), s'.map (·.1) = s ∧ Jx s' X) W hW (lift hJ) (lift hJx) ?_ ⟨[], rfl, h0⟩).mono ?_
  · rintro pre x W1 ⟨s', rfl, h⟩ hp
    have hx : x ∈ allT ss cs := hp.subset (by simp)
    obtain ⟨fn, tmps, assign, body, hy, hR⟩ := hY s' ⟨x, hx⟩ W1 h (by have := pre_lt' hp; simpa using this)
    refine ⟨fn, tmps, assign, body, hy, hR.mono ?_⟩
    rintro e W' (⟨he, hj, hk⟩ | ⟨he, hj⟩)
    · exact .inl ⟨he, ⟨s' ++ [⟨x, hx⟩], by simp, hj⟩, hk⟩
    · exact .inr ⟨he, ⟨s' ++ [⟨x, hx⟩], by simp, hj⟩⟩
  · rintro e W' ⟨hv, ⟨xs, rfl, s', e', h⟩ | ⟨pre, hp, s', rfl, h⟩⟩
    · exact ⟨hv, .inl ⟨s', e', h⟩⟩
    · exact ⟨hv, .inr ⟨s', hp, h⟩⟩
end Go.Proofs.Ytfhdiahjfnphkaa
