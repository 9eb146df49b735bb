/- An instruction, by the reference, whole. Conditions: at most 40 arguments; the types are known. -/
import Derived.Test.YtfhdiahjfnphkaaCR30
import Derived.Test.YtfhdiahjfnphkaaCR31
import Derived.Test.YtfhdiahjfnphkaaCR32
import Derived.Test.YtfhdiahjfnphkaaCR22
import Derived.Test.YtfhdiahjfnphkaaCR24
namespace Go.Proofs.Ytfhdiahjfnphkaa
open Go.RowKit Go.Maps
set_option linter.unusedVariables false
set_option linter.unusedSimpArgs false
theorem known_idx {ss : List StD} {x : CoD} {k : Nat} {pp : Bool} {nm : ByteArray} (hkn : ∀ v ∈ x.vs, badB ss v.t = false) (hv : KindIs x k pp nm) : pp = true → 0 ≤ idxL (stN nm) ss 0 := by
  rintro rfl
  obtain ⟨v, h1, h2⟩ := hv
  have := hkn v (List.mem_of_getElem? h1)
  rw [h2, badB] at this
  simp at this
  exact this
theorem tyEq_comm (a b : TyD) : tyEq a b = tyEq b a := by
  rw [tyEq, tyEq, sEq, sEq, Bool.beq_comm (a := a.p), Bool.beq_comm (a := a.name.toList)]
set_option maxHeartbeats 1000000 in
theorem heap_7 (ss : List StD) (n m : Nat) (hn : ss.length = n) (sa ca : Option Addr) (sc cc : Nat) (x : CoD) (va fa ia : Option Addr) (vc fc ic : Nat) (d a b tt el f nn l c : Int) (sg : ByteArray) (xs ms : List Int) (ao mo : Option Addr) (ac mc : Nat) (w : World) (hS : RowM 4 StAt w sa ss) (hC : RowM 3 VaAt w va x.vs) (hkn : ∀ v ∈ x.vs, badB ss v.t = false) (h1 : inN x.vs.length a = true) (h2 : inN x.vs.length d = true) :
    Calls Try.prog 56 #[.agg #[.slice sa n sc, .slice ca m cc], .agg (CoV x va vc fa fc ia ic), .agg (InV ⟨7, d, a, b, tt, el, f, nn, l, c, sg, xs, ms⟩ ao ac mo mc)] w fun e w' => e = .returned (.int .i64 (fitsF ss x ⟨7, d, a, b, tt, el, f, nn, l, c, sg, xs, ms⟩ d false)) ∧ Hid (Below w.heap.size w w') := by
  have hff : fieldF ss x ⟨7, d, a, b, tt, el, f, nn, l, c, sg, xs, ms⟩ d = fldF ss (tyOf x a) f := field_fld (by simp [h1, h2])
  obtain ⟨k, pp, nm, rfl, hv, ht⟩ := inN_get h1
  obtain ⟨kv, p2, nm2, rfl, hv2, ht2⟩ := inN_get h2
  have hF : ∀ W, Below w.heap.size w W → Calls Try.prog 73 #[.agg #[.slice sa n sc, .slice ca m cc], .agg (CoV x va vc fa fc ia ic), .int .i64 k, .int .i64 f] W fun e w' => e = .returned (.tuple #[.agg #[.bool (fldF ss ⟨pp, nm⟩ f).1.p, .string (fldF ss ⟨pp, nm⟩ f).1.name], .int .i64 (fldF ss ⟨pp, nm⟩ f).2]) ∧ Hid (Below W.heap.size W w') := fun W hb =>
    rfield_g ss n m hn sa ca sc cc x va fa ia vc fc ic k f pp nm W (hS.later st_stays hb) (hC.later va_stays hb) hv (known_idx hkn hv)
  rw [ht] at hff
  rw [fitsF, hff, ht2]
  generalize fldF ss ⟨pp, nm⟩ f = z at hF ⊢
  obtain ⟨⟨tp, tn⟩, g⟩ := z
  simp only at hF ⊢
  by_cases h0 : g = 0
  · rw [if_pos h0]
    subst h0
    refine (heap7_yes sa ca n m sc cc x va fa ia vc fc ic k kv b tt el f nn l c sg xs ms ao mo ac mc pp p2 tp nm nm2 tn w hC hv hv2 hF).mono fun e w' ⟨he, hb⟩ => ⟨?_, hb⟩
    rw [he, tyEq_comm ⟨p2, nm2⟩]
    generalize tyEq ⟨tp, tn⟩ ⟨p2, nm2⟩ = q
    cases tp <;> cases q <;> rfl
  · rw [if_neg h0]
    exact heap7_no sa ca n m sc cc x va fa ia vc fc ic k kv b tt el f nn l c sg xs ms ao mo ac mc pp p2 tp nm nm2 tn g w hC hv hv2 hF h0
set_option maxHeartbeats 1000000 in
theorem heap_8 (ss : List StD) (n m : Nat) (hn : ss.length = n) (sa ca : Option Addr) (sc cc : Nat) (x : CoD) (va fa ia : Option Addr) (vc fc ic : Nat) (d a b tt el f nn l c : Int) (sg : ByteArray) (xs ms : List Int) (ao mo : Option Addr) (ac mc : Nat) (w : World) (hS : RowM 4 StAt w sa ss) (hC : RowM 3 VaAt w va x.vs) (hkn : ∀ v ∈ x.vs, badB ss v.t = false) (h1 : inN x.vs.length a = true) (h2 : inN x.vs.length b = true) :
    Calls Try.prog 56 #[.agg #[.slice sa n sc, .slice ca m cc], .agg (CoV x va vc fa fc ia ic), .agg (InV ⟨8, d, a, b, tt, el, f, nn, l, c, sg, xs, ms⟩ ao ac mo mc)] w fun e w' => e = .returned (.int .i64 (fitsF ss x ⟨8, d, a, b, tt, el, f, nn, l, c, sg, xs, ms⟩ b false)) ∧ Hid (Below w.heap.size w w') := by
  have hff : fieldF ss x ⟨8, d, a, b, tt, el, f, nn, l, c, sg, xs, ms⟩ b = fldF ss (tyOf x a) f := field_fld (by simp [h1, h2])
  obtain ⟨k, pp, nm, rfl, hv, ht⟩ := inN_get h1
  obtain ⟨kv, p2, nm2, rfl, hv2, ht2⟩ := inN_get h2
  have hF : ∀ W, Below w.heap.size w W → Calls Try.prog 73 #[.agg #[.slice sa n sc, .slice ca m cc], .agg (CoV x va vc fa fc ia ic), .int .i64 k, .int .i64 f] W fun e w' => e = .returned (.tuple #[.agg #[.bool (fldF ss ⟨pp, nm⟩ f).1.p, .string (fldF ss ⟨pp, nm⟩ f).1.name], .int .i64 (fldF ss ⟨pp, nm⟩ f).2]) ∧ Hid (Below W.heap.size W w') := fun W hb =>
    rfield_g ss n m hn sa ca sc cc x va fa ia vc fc ic k f pp nm W (hS.later st_stays hb) (hC.later va_stays hb) hv (known_idx hkn hv)
  rw [ht] at hff
  rw [fitsF, hff, ht2]
  generalize fldF ss ⟨pp, nm⟩ f = z at hF ⊢
  obtain ⟨⟨tp, tn⟩, g⟩ := z
  simp only at hF ⊢
  by_cases h0 : g = 0
  · rw [if_pos h0]
    subst h0
    refine (heap8_yes sa ca n m sc cc x va fa ia vc fc ic k kv d tt el f nn l c sg xs ms ao mo ac mc pp p2 tp nm nm2 tn w hC hv hv2 hF).mono fun e w' ⟨he, hb⟩ => ⟨?_, hb⟩
    rw [he, tyEq_comm ⟨p2, nm2⟩]
    generalize tyEq ⟨tp, tn⟩ ⟨p2, nm2⟩ = q
    cases tp <;> cases q <;> rfl
  · rw [if_neg h0]
    exact heap8_no sa ca n m sc cc x va fa ia vc fc ic k kv d tt el f nn l c sg xs ms ao mo ac mc pp p2 tp nm nm2 tn g w hC hv hv2 hF h0
set_option maxHeartbeats 1000000 in
theorem heap_10 (ss : List StD) (n m : Nat) (hn : ss.length = n) (sa ca : Option Addr) (sc cc : Nat) (x : CoD) (va fa ia : Option Addr) (vc fc ic : Nat) (d a b tt el f nn l c : Int) (sg : ByteArray) (xs ms : List Int) (ao mo : Option Addr) (ac mc : Nat) (w : World) (hS : RowM 4 StAt w sa ss) (hC : RowM 3 VaAt w va x.vs) (hkn : ∀ v ∈ x.vs, badB ss v.t = false) (h1 : inN x.vs.length a = true) (h2 : inN x.vs.length d = true) :
    Calls Try.prog 56 #[.agg #[.slice sa n sc, .slice ca m cc], .agg (CoV x va vc fa fc ia ic), .agg (InV ⟨10, d, a, b, tt, el, f, nn, l, c, sg, xs, ms⟩ ao ac mo mc)] w fun e w' => e = .returned (.int .i64 (fitsF ss x ⟨10, d, a, b, tt, el, f, nn, l, c, sg, xs, ms⟩ d true)) ∧ Hid (Below w.heap.size w w') := by
  have hff : fieldF ss x ⟨10, d, a, b, tt, el, f, nn, l, c, sg, xs, ms⟩ d = fldF ss (tyOf x a) f := field_fld (by simp [h1, h2])
  obtain ⟨k, pp, nm, rfl, hv, ht⟩ := inN_get h1
  obtain ⟨kv, p2, nm2, rfl, hv2, ht2⟩ := inN_get h2
  have hF : ∀ W, Below w.heap.size w W → Calls Try.prog 73 #[.agg #[.slice sa n sc, .slice ca m cc], .agg (CoV x va vc fa fc ia ic), .int .i64 k, .int .i64 f] W fun e w' => e = .returned (.tuple #[.agg #[.bool (fldF ss ⟨pp, nm⟩ f).1.p, .string (fldF ss ⟨pp, nm⟩ f).1.name], .int .i64 (fldF ss ⟨pp, nm⟩ f).2]) ∧ Hid (Below W.heap.size W w') := fun W hb =>
    rfield_g ss n m hn sa ca sc cc x va fa ia vc fc ic k f pp nm W (hS.later st_stays hb) (hC.later va_stays hb) hv (known_idx hkn hv)
  rw [ht] at hff
  rw [fitsF, hff, ht2]
  generalize fldF ss ⟨pp, nm⟩ f = z at hF ⊢
  obtain ⟨⟨tp, tn⟩, g⟩ := z
  simp only at hF ⊢
  by_cases h0 : g = 0
  · rw [if_pos h0]
    subst h0
    refine (heap10_yes sa ca n m sc cc x va fa ia vc fc ic k kv b tt el f nn l c sg xs ms ao mo ac mc pp p2 tp nm nm2 tn w hC hv hv2 hF).mono fun e w' ⟨he, hb⟩ => ⟨?_, hb⟩
    rw [he, tyEq_comm ⟨p2, nm2⟩]
    generalize tyEq ⟨tp, tn⟩ ⟨p2, nm2⟩ = q
    cases tp <;> cases q <;> rfl
  · rw [if_neg h0]
    exact heap10_no sa ca n m sc cc x va fa ia vc fc ic k kv b tt el f nn l c sg xs ms ao mo ac mc pp p2 tp nm nm2 tn g w hC hv hv2 hF h0
set_option maxHeartbeats 1000000 in
theorem heap_11 (ss : List StD) (n m : Nat) (hn : ss.length = n) (sa ca : Option Addr) (sc cc : Nat) (x : CoD) (va fa ia : Option Addr) (vc fc ic : Nat) (d a b tt el f nn l c : Int) (sg : ByteArray) (xs ms : List Int) (ao mo : Option Addr) (ac mc : Nat) (w : World) (hS : RowM 4 StAt w sa ss) (hC : RowM 3 VaAt w va x.vs) (hkn : ∀ v ∈ x.vs, badB ss v.t = false) (h1 : inN x.vs.length a = true) (h2 : inN x.vs.length b = true) :
    Calls Try.prog 56 #[.agg #[.slice sa n sc, .slice ca m cc], .agg (CoV x va vc fa fc ia ic), .agg (InV ⟨11, d, a, b, tt, el, f, nn, l, c, sg, xs, ms⟩ ao ac mo mc)] w fun e w' => e = .returned (.int .i64 (fitsF ss x ⟨11, d, a, b, tt, el, f, nn, l, c, sg, xs, ms⟩ b true)) ∧ Hid (Below w.heap.size w w') := by
  have hff : fieldF ss x ⟨11, d, a, b, tt, el, f, nn, l, c, sg, xs, ms⟩ b = fldF ss (tyOf x a) f := field_fld (by simp [h1, h2])
  obtain ⟨k, pp, nm, rfl, hv, ht⟩ := inN_get h1
  obtain ⟨kv, p2, nm2, rfl, hv2, ht2⟩ := inN_get h2
  have hF : ∀ W, Below w.heap.size w W → Calls Try.prog 73 #[.agg #[.slice sa n sc, .slice ca m cc], .agg (CoV x va vc fa fc ia ic), .int .i64 k, .int .i64 f] W fun e w' => e = .returned (.tuple #[.agg #[.bool (fldF ss ⟨pp, nm⟩ f).1.p, .string (fldF ss ⟨pp, nm⟩ f).1.name], .int .i64 (fldF ss ⟨pp, nm⟩ f).2]) ∧ Hid (Below W.heap.size W w') := fun W hb =>
    rfield_g ss n m hn sa ca sc cc x va fa ia vc fc ic k f pp nm W (hS.later st_stays hb) (hC.later va_stays hb) hv (known_idx hkn hv)
  rw [ht] at hff
  rw [fitsF, hff, ht2]
  generalize fldF ss ⟨pp, nm⟩ f = z at hF ⊢
  obtain ⟨⟨tp, tn⟩, g⟩ := z
  simp only at hF ⊢
  by_cases h0 : g = 0
  · rw [if_pos h0]
    subst h0
    refine (heap11_yes sa ca n m sc cc x va fa ia vc fc ic k kv d tt el f nn l c sg xs ms ao mo ac mc pp p2 tp nm nm2 tn w hC hv hv2 hF).mono fun e w' ⟨he, hb⟩ => ⟨?_, hb⟩
    rw [he, tyEq_comm ⟨p2, nm2⟩]
    generalize tyEq ⟨tp, tn⟩ ⟨p2, nm2⟩ = q
    cases tp <;> cases q <;> rfl
  · rw [if_neg h0]
    exact heap11_no sa ca n m sc cc x va fa ia vc fc ic k kv d tt el f nn l c sg xs ms ao mo ac mc pp p2 tp nm nm2 tn g w hC hv hv2 hF h0
/-- What holds of a function, by the reference. -/
theorem rinstr_g (ss : List StD) (cs : List CoD) (n m : Nat) (hn : ss.length = n) (hm : cs.length = m) (sa ca : Option Addr) (sc cc : Nat) (x : CoD) (va fa ia : Option Addr) (vc fc ic : Nat) (r : InD) (ao mo : Option Addr) (ac mc : Nat) (w : World) (hS : RowM 4 StAt w sa ss) (hK : RowM 8 CoAt w ca cs) (hC : RowM 3 VaAt w va x.vs) (hX : IntsM w ao r.xs) (hl : r.xs.length ≤ 40) (hi : x.ins.length ≤ 9223372036854775807) (hkn : ∀ v ∈ x.vs, badB ss v.t = false) :
    Calls Try.prog 39 #[.agg #[.slice sa n sc, .slice ca m cc], .agg (CoV x va vc fa fc ia ic), .agg (InV r ao ac mo mc)] w fun e w' => e = .returned (.int .i64 (jF ss cs x r)) ∧ Hid (Below w.heap.size w w') := by
  by_cases h1 : r.op < 1
  · rw [show jF ss cs x r = 3 by (simp only [jF]; repeat rw [if_neg (by omega)])]
    exact rinstr_odd _ _ rfl rfl r ao mo ac mc w (.inl h1)
  by_cases h2 : 18 < r.op
  · rw [show jF ss cs x r = 3 by (simp only [jF]; repeat rw [if_neg (by omega)])]
    exact rinstr_odd _ _ rfl rfl r ao mo ac mc w (.inr h2)
  cases hw : wrB r.op
  case true =>
    cases hd : inN x.vs.length r.d
    case false =>
      rw [jF_loose ss cs x r h1 h2 (.inl ⟨hw, hd⟩)]
      exact rinstr_loose _ rfl x va fa ia vc fc ic r ao mo ac mc w h1 h2 hw hd
    case true =>
      cases hr : (rdsF r).all (inN x.vs.length)
      case false =>
        rw [jF_loose ss cs x r h1 h2 (.inr hr)]
        exact rinstr_rd_w _ rfl x va fa ia vc fc ic r ao mo ac mc w h1 h2 hX hl hw hd hr
      case true =>
        refine rinstr_w ss cs n m hn sa ca sc cc x va fa ia vc fc ic r ao mo ac mc w h1 h2 hS hC hX hl hi hw hd hr _ rfl ?_ ?_
        · rintro ho W hb
          obtain ⟨op, d, a, b, tt, el, f, nn, l, c, sg, xs, ms⟩ := r
          simp only at ho hd hr hw
          rcases ho with rfl | rfl | rfl | rfl
          · rw [show jF ss cs x ⟨7, d, a, b, tt, el, f, nn, l, c, sg, xs, ms⟩ = fitsF ss x ⟨7, d, a, b, tt, el, f, nn, l, c, sg, xs, ms⟩ d false by simp [jF]]
            exact heap_7 ss n m hn sa ca sc cc x va fa ia vc fc ic d a b tt el f nn l c sg xs ms ao mo ac mc W (hS.later st_stays hb) (hC.later va_stays hb) hkn (by simpa [rdsF, rd1, rd2, rdL, rd2L] using hr) hd
          · exact absurd hw (by decide)
          · rw [show jF ss cs x ⟨10, d, a, b, tt, el, f, nn, l, c, sg, xs, ms⟩ = fitsF ss x ⟨10, d, a, b, tt, el, f, nn, l, c, sg, xs, ms⟩ d true by simp [jF]]
            exact heap_10 ss n m hn sa ca sc cc x va fa ia vc fc ic d a b tt el f nn l c sg xs ms ao mo ac mc W (hS.later st_stays hb) (hC.later va_stays hb) hkn (by simpa [rdsF, rd1, rd2, rdL, rd2L] using hr) hd
          · exact absurd hw (by decide)
        · rintro ho W hb
          obtain ⟨op, d, a, b, tt, el, f, nn, l, c, sg, xs, ms⟩ := r
          simp only at ho hd hr hw
          subst ho
          have hr' : xs.all (inN x.vs.length) = true := by simpa [rdsF] using hr
          have hj : jF ss cs x ⟨15, d, a, b, tt, el, f, nn, l, c, sg, xs, ms⟩ = callF cs x ⟨15, d, a, b, tt, el, f, nn, l, c, sg, xs, ms⟩ := by simp [jF]
          rw [hj]
          have hm9 : m ≤ 9223372036854775807 := by rw [← hm]; exact hK.1
          by_cases hf : inN m f = true
          · obtain ⟨kf, rfl, hkf⟩ : ∃ k : Nat, f = k ∧ k < m := ⟨f.toNat, by simp [inN] at hf; omega, by simp [inN] at hf; omega⟩
            obtain ⟨g, hg⟩ : ∃ g, cs[kf]? = some g := ⟨_, List.getElem?_eq_getElem (by omega)⟩
            obtain ⟨bc, oc, hca, hbc, va2, vc2, fa2, fc2, ia2, ic2, hcc, hco⟩ := (hK.later co_stays hb).2 kf g hg
            obtain ⟨kd, pd, nd, rfl, hvd, htd⟩ := inN_get hd
            rw [show callF cs x ⟨15, kd, a, b, tt, el, kf, nn, l, c, sg, xs, ms⟩ = calF g x ⟨15, kd, a, b, tt, el, kf, nn, l, c, sg, xs, ms⟩ by simp [callF, hd, hr', hg]]
            exact rcall_in sa ca n m sc cc x va fa ia vc fc ic 15 a b tt el nn l c sg xs ms ao mo ac mc kd kf bc oc pd nd g va2 fa2 ia2 vc2 fc2 ic2 W hm9 hkf (hC.later va_stays hb) (hX.later int_stays hb) hvd htd hr' hca hcc hco.vs
          · have hf' : inN m f = false := by simpa using hf
            rw [show callF cs x ⟨15, d, a, b, tt, el, f, nn, l, c, sg, xs, ms⟩ = 15 by
              simp only [callF, hd, hr']
              by_cases h0 : 0 ≤ f
              · have : cs.length ≤ f.toNat := by simp [inN] at hf'; omega
                simp [h0, List.getElem?_eq_none this]
              · simp [h0]]
            exact rcall_out sa ca n m sc cc x va fa ia vc fc ic _ ao mo ac mc W hm9 hf'
  case false =>
    cases hr : (rdsF r).all (inN x.vs.length)
    case false =>
      rw [jF_loose ss cs x r h1 h2 (.inr hr)]
      exact rinstr_rd_n _ rfl x va fa ia vc fc ic r ao mo ac mc w h1 h2 hX hl hw hr
    case true =>
      refine rinstr_n ss cs n m hn sa ca sc cc x va fa ia vc fc ic r ao mo ac mc w h1 h2 hS hC hX hl hi hw hr _ rfl ?_ ?_
      · rintro ho W hb
        obtain ⟨op, d, a, b, tt, el, f, nn, l, c, sg, xs, ms⟩ := r
        simp only at ho hr hw
        rcases ho with rfl | rfl | rfl | rfl
        · exact absurd hw (by decide)
        · obtain ⟨ha, hb2⟩ : inN x.vs.length a = true ∧ inN x.vs.length b = true := by simpa [rdsF, rd1, rd2, rdL, rd2L] using hr
          rw [show jF ss cs x ⟨8, d, a, b, tt, el, f, nn, l, c, sg, xs, ms⟩ = fitsF ss x ⟨8, d, a, b, tt, el, f, nn, l, c, sg, xs, ms⟩ b false by simp [jF]]
          exact heap_8 ss n m hn sa ca sc cc x va fa ia vc fc ic d a b tt el f nn l c sg xs ms ao mo ac mc W (hS.later st_stays hb) (hC.later va_stays hb) hkn ha hb2
        · exact absurd hw (by decide)
        · obtain ⟨ha, hb2⟩ : inN x.vs.length a = true ∧ inN x.vs.length b = true := by simpa [rdsF, rd1, rd2, rdL, rd2L] using hr
          rw [show jF ss cs x ⟨11, d, a, b, tt, el, f, nn, l, c, sg, xs, ms⟩ = fitsF ss x ⟨11, d, a, b, tt, el, f, nn, l, c, sg, xs, ms⟩ b true by simp [jF]]
          exact heap_11 ss n m hn sa ca sc cc x va fa ia vc fc ic d a b tt el f nn l c sg xs ms ao mo ac mc W (hS.later st_stays hb) (hC.later va_stays hb) hkn ha hb2
      · rintro ho
        rw [ho] at hw
        exact absurd hw (by decide)
end Go.Proofs.Ytfhdiahjfnphkaa
