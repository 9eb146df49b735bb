/- LiveNils (usufructlaw10): the card: what the row lists as laid, tied to the program's text. -/
import Derived.Test.YtlbcinanpnjjjaaDoorLiveNilsProof
import Derived.Test.YtlbcinanpnjjjaaDoorCards
import Derived.Test.YtlbcinanpnjjjaaDoorTie
import Derived.SevenTiedAt
namespace Go.Proofs.YtlbcinanpnjjjaaDoor
open Go
theorem liveNils_card : Rows.LiveNilsCardSaid :=
  Claim7.holds_tied_plain_at .later [] [.data] true (true, "007c870b1d77f7e9ae1651c44a7b6780cbf7e6d6c459770510df820bbeed5fcb") false
    liveNils_holds (fun _ h => by cases h) (by kernel_rfl) (fun _ h => by cases h) liveNils_row_tie rfl ⟨rfl, rfl⟩ (by kernel_rfl) rfl
    (fun f fn hf hfn => by
      obtain rfl : f = 4 := Option.some.inj ((show Tryd.prog.funcNamed "usufruct/usufructlaw10.LiveNils" = some 4 by kernel_rfl).symm.trans hf) |>.symm
      obtain rfl : fn = Tryd.f4 := (Option.some.inj (Tryd.func4.symm.trans hfn)).symm
      exact ⟨by kernel_rfl, fun j t ht => by
        rw [Tryd.params4] at ht
        have h3 : t = 30 ∨ t = 3 ∨ t = 3 := by
          rcases j with _ | _ | _ | j
          · exact .inl (by simpa using ht.symm)
          · exact .inr (.inl (by simpa using ht.symm))
          · exact .inr (.inr (by simpa using ht.symm))
          · simp at ht
        rcases h3 with h3 | h3 | h3
        · subst h3
          exact (show Tryd.prog.wantsStandIn 30 = false by kernel_rfl)
        · subst h3
          exact (show Tryd.prog.wantsStandIn 3 = false by kernel_rfl)
        · subst h3
          exact (show Tryd.prog.wantsStandIn 3 = false by kernel_rfl)⟩)
    (by kernel_rfl)
end Go.Proofs.YtlbcinanpnjjjaaDoor
