/- What skip does. No conditions. -/
import Derived.Test.YtpaenaofebdgiaaTokF
namespace Go.Proofs.Ytpaenaofebdgiaa
open Go.RowKit

theorem quiet2 {P : Program} {f : FuncId} {args : Array Value} {w : World} {n0 a : Nat} {v : Value}
    (h : Calls P f args (w.drewN (n0 + a)) fun e w' => e = .returned v ∧ w' = w.drewN (n0 + a)) : Calls P f args (w.drewN (n0 + a)) fun e w'' => e = .returned v ∧ ∃ n, w'' = w.drewN (n0 + n) :=
  h.mono fun _ _ ⟨he, hm⟩ => ⟨he, a, hm⟩
theorem bne_t {a b : Int} (h : (a == b) = false) : (a != b) = true := by simp [bne, h]
theorem bne_f {a b : Int} (h : (a == b) = true) : (a != b) = false := by simp [bne, h]
theorem noGoto_n {Q : Exit → Act → World → Prop} {a : Act} {w : World} : Exit.noGoto Q .normal a w = Q .normal a w := rfl
theorem or_ff {a b : Bool} (h : (a || b) = false) : a = false ∧ b = false := by cases a <;> cases b <;> simp at h ⊢
set_option maxRecDepth 100000 in
set_option maxHeartbeats 4000000 in
theorem skip_i (B : Nat) (s : ByteArray) (a ln hd : Nat) (w : World) (h : Rdr w B s a ln hd) (ha : a ≤ s.size) (hs : s.size ≤ 2000000) (hln : ln ≤ a + 1) :
    Calls Try.prog 27 #[.pointer (some ⟨B, 0, none⟩)] w fun e w' => (∃ v, e = .returned v) ∧ Only B w w' ∧
      Rdr w' B s (skipL false (s.data.toList.drop a) a ln hd).1 (skipL false (s.data.toList.drop a) a ln hd).2.1 (skipL false (s.data.toList.drop a) a ln hd).2.2 := by
  obtain ⟨c0, c1, -, -, -, -, -⟩ := h.c
  have H := hid h
  clear h
  obtain ⟨R, HRR⟩ : ∃ R, Hid (R = skipL false (s.data.toList.drop a) a ln hd) := ⟨_, rfl⟩
  rw [← HRR.out]
  go_enter Try.func27, Try.ntmps27
  go_wp2
  go_step3
  go_wp2
  go_step3
  go_wp2
  clear c0 c1
  go_loopg [] (s.size - a) (fun g wr => ∃ k l hh : Nat, k ≤ s.size ∧ g = s.size - k ∧ l ≤ k + 1 ∧ Hid (Rdr wr B s k l hh) ∧ Hid (Only B w wr) ∧ Hid (R = skipL false (s.data.toList.drop k) k l hh))
  case atStart => exact ⟨a, ln, hd, ha, rfl, hln, H, Only.refl _ _, HRR⟩
  case round =>
    obtain ⟨k, l, hh, hk, rfl, hl, HR, HO, HE⟩ := hrel
    obtain ⟨c0, c1, c2, c3, f1, f2, f3⟩ := HR.out.c
    by_cases hlt : k < s.size
    · have hlt' : (k : Int) < (s.size : Int) := by omega
      cases h10 : ((s[k].toNat : Int) == 10)
      case true =>
        go_wp2
        go_quiet (fail)
        go_wp2
        go_quiet (fail)
        go_wp2
        go_roundg (s.size - (k + 1))
        case measure => omega
        case rel => exact ⟨k + 1, l + 1, k + 1, by omega, rfl, by omega, hid ((((HR.out.drewN _).set1 (k + 1)).set2 (l + 1)).set3 (k + 1)), hid ((((HO.out.drewN _).set _ _).set _ _).set _ _), by show _ = _; rw [HE.out, skip_nl _ _ _ _ _ hlt h10]⟩
      case false =>
        cases h32 : (((s[k].toNat : Int) == 32) || ((s[k].toNat : Int) == 9))
        case true =>
          go_wp2
          go_quiet (fail)
          go_wp2
          go_quiet (fail)
          go_wp2
          all_goals go_roundg (s.size - (k + 1))
          all_goals first
            | omega
            | exact ⟨k + 1, l, hh, by omega, rfl, by omega, hid ((HR.out.drewN _).set1 (k + 1)), hid ((HO.out.drewN _).set _ _), by show _ = _; rw [HE.out, skip_sp _ _ _ _ hlt h10 h32]⟩
        case false =>
          obtain ⟨h32a, h32b⟩ := or_ff h32
          have H32 := hid h32
          clear h32
          cases hsl : slashes s k
          case false =>
            go_wp2
            go_quiet (fail)
            go_wp2
            go_quiet (fail)
            go_wp2
            go_quiet ((go_at_call 31; exact quiet2 (slashes_i s k false _ hs hk hsl)))
            go_wp2
            rw [noGoto_n]
            go_end0
            rw [HE.out, skip_no _ _ _ _ hlt h10 H32.out hsl]
            exact ⟨⟨_, rfl⟩, ((HO.out.drewN _).drewN _), HR.out⟩
          case true =>
            go_wp2
            go_quiet (fail)
            go_wp2
            go_quiet (fail)
            go_wp2
            go_quiet ((go_at_call 31; exact quiet2 (slashes_i s k true _ hs hk hsl)))
            go_wp2
            clear c0 c1 c2 c3 f1 f2 f3
            go_loopg [] (s.size - k) (fun g2 wx => ∃ k2 : Nat, k ≤ k2 ∧ k2 ≤ s.size ∧ g2 = s.size - k2 ∧ Hid (Rdr wx B s k2 l hh) ∧ Hid (Only B w wx) ∧ Hid (R = skipL true (s.data.toList.drop k2) k2 l hh))
            case atStart => exact ⟨k, Nat.le_refl _, hk, rfl, hid HR.out, hid ((HO.out.drewN _).drewN _), by show _ = _; rw [HE.out, skip_co _ _ _ _ hlt h10 H32.out hsl]⟩
            case round =>
              obtain ⟨k2, hkk, hk2, rfl, HR2, HO2, HE2⟩ := hrel
              obtain ⟨c0, c1, -, -, f1, -, -⟩ := HR2.out.c
              by_cases hlt2 : k2 < s.size
              · have hlt2' : (k2 : Int) < (s.size : Int) := by omega
                cases hnl : ((s[k2].toNat : Int) == 10)
                case false =>
                  have hnb := bne_t hnl
                  go_wp2
                  go_quiet (fail)
                  go_wp2
                  go_roundg (s.size - (k2 + 1))
                  case measure => omega
                  case rel => exact ⟨k2 + 1, by omega, by omega, rfl, hid ((HR2.out.drewN _).set1 (k2 + 1)), hid ((HO2.out.drewN _).set _ _), by show _ = _; rw [HE2.out, skip_in _ _ _ _ hlt2 hnl]⟩
                case true =>
                  have hnb := bne_f hnl
                  have hne : k < k2 := by
                    by_cases e : k2 = k
                    · subst e; rw [h10] at hnl; cases hnl
                    · omega
                  go_wp2
                  go_quiet (fail)
                  go_wp2
                  go_roundg (s.size - k2)
                  case measure => omega
                  case rel => exact ⟨k2, l, hh, by omega, rfl, by omega, hid (HR2.out.drewN _), hid (HO2.out.drewN _), by show _ = _; rw [HE2.out, skip_nl _ _ _ _ _ hlt2 hnl, skip_nl _ _ _ _ _ hlt2 hnl]⟩
              · have hlt2' : ¬ (k2 : Int) < (s.size : Int) := by omega
                go_wp2
                go_quiet (fail)
                go_wp2
                go_roundg (s.size - k2)
                case measure => omega
                case rel => exact ⟨k2, l, hh, by omega, rfl, by omega, hid (HR2.out.drewN _), hid (HO2.out.drewN _), by show _ = _; rw [HE2.out, skip_end _ _ _ _ _ (by omega), skip_end _ _ _ _ _ (by omega)]⟩
    · have hlt' : ¬ (k : Int) < (s.size : Int) := by omega
      go_wp2
      go_quiet (fail)
      go_wp2
      rw [noGoto_n]
      go_end0
      rw [HE.out, skip_end _ _ _ _ _ (by omega)]
      exact ⟨⟨_, rfl⟩, HO.out.drewN _, HR.out⟩
end Go.Proofs.Ytpaenaofebdgiaa
