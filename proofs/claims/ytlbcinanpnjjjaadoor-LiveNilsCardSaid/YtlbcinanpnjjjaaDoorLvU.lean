/- What a nil table says, and of what is no instruction, or no variable. No conditions but sizes. -/
import Derived.Test.YtlbcinanpnjjjaaDoorLvJ
import Derived.Test.YtlbcinanpnjjjaaDoorFlJ
namespace Go.Proofs.YtlbcinanpnjjjaaDoor
open Go.RowKit Go.Maps Go.Shelf
set_option linter.unusedVariables false
set_option linter.unusedSimpArgs false
theorem there_nil (v : Int) (w : World) : Calls Tryd.prog 28 #[.pointer none, .int .i64 v] w fun e w' => e = .returned (.bool false) ∧ w' = w := by
  go_enter Tryd.func28, Tryd.ntmps28
  go_wp2
  go_ret
  exact ⟨rfl, rfl⟩
theorem vars_nil (v : Int) (w : World) : Calls Tryd.prog 10 #[.pointer none, .int .i64 v] w fun e w' => e = .returned (.func (.func 29) #[] #[]) ∧ w' = w := by
  go_enter Tryd.func10, Tryd.ntmps10
  go_wp2_with (go_at_call 28; refine (there_nil v _).mono ?_; rintro e w' ⟨rfl, hw⟩; obtain rfl := hw.symm)
  go_ret
  exact ⟨rfl, rfl⟩
theorem seq_nil (nn Nb : Nat) (w : World) : SeqLow nn 29 #[] (fun v : Int => #[.int .i64 v]) Nb [] w := by
  intro lo J Jx W hW hl1 hl2 hJ hJx hY h0
  refine callsIn_wide.2 ?_
  show Calls Tryd.prog 29 #[.func (.yield lo) #[] #[]] W fun e W' => (∃ v, e = .returned v) ∧ (J [] W' ∨ ∃ pre, pre <+: [] ∧ Jx pre W')
  have H0 := hid h0
  clear h0 hJ hJx hY hW
  go_enter Tryd.func29, Tryd.ntmps29
  go_wp2
  go_end0
  exact ⟨⟨_, rfl⟩, .inl H0.out⟩
theorem ahead_nil (a v : Int) (w : World) : Calls Tryd.prog 17 #[.pointer none, .int .i64 a, .int .i64 v] w fun e w' => e = .returned (.bool false) ∧ w' = w := by
  go_enter Tryd.func17, Tryd.ntmps17
  go_wp2_with (go_at_call 28; refine (there_nil a _).mono ?_; rintro e w' ⟨rfl, hw⟩; obtain rfl := hw.symm)
  go_ret
  exact ⟨rfl, rfl⟩
theorem behind_nil (a v : Int) (w : World) : Calls Tryd.prog 18 #[.pointer none, .int .i64 a, .int .i64 v] w fun e w' => e = .returned (.bool false) ∧ w' = w := by
  go_enter Tryd.func18, Tryd.ntmps18
  go_wp2_with (go_at_call 28; refine (there_nil a _).mono ?_; rintro e w' ⟨rfl, hw⟩; obtain rfl := hw.symm)
  go_ret
  exact ⟨rfl, rfl⟩
theorem most_nil (w : World) : Calls Tryd.prog 14 #[.pointer none] w fun e w' => e = .returned (.int .i64 0) ∧ w' = w := by
  go_enter Tryd.func14, Tryd.ntmps14
  go_wp2
  go_ret
  exact ⟨rfl, rfl⟩
theorem those_nil (f : Value) (w : World) : Calls Tryd.prog 31 #[.pointer none, f] w fun e w' => e = .returned (.slice none 0 0) ∧ w' = w := by
  go_enter Tryd.func31, Tryd.ntmps31
  go_wp2
  go_ret
  exact ⟨rfl, rfl⟩
theorem idle_nil (w : World) : Calls Tryd.prog 12 #[.pointer none] w fun e w' => e = .returned (.slice none 0 0) ∧ Hid (Below w.heap.size w w') := by
  have HB := hid (below1 w)
  go_enter Tryd.func12, Tryd.ntmps12
  go_wp2_with (go_at_call 31; refine (those_nil _ _).mono ?_; rintro e w' ⟨rfl, hw⟩; obtain rfl := hw.symm)
  go_ret
  exact ⟨rfl, hid (HB.out _)⟩
theorem last_nil (v : Int) (w : World) : Calls Tryd.prog 15 #[.pointer none, .int .i64 v] w fun e w' => e = .returned (.slice none 0 0) ∧ Hid (Below w.heap.size w w') := by
  have HB := hid (below2 w)
  go_enter Tryd.func15, Tryd.ntmps15
  go_wp2_with (go_at_call 31; refine (those_nil _ _).mono ?_; rintro e w' ⟨rfl, hw⟩; obtain rfl := hw.symm)
  go_ret
  exact ⟨rfl, hid (HB.out _ _)⟩
section
variable {w W : World} {x : CoD} {va fa ia : Option Addr} {vc fc ic n nw P TA TB : Nat} {gA gB : Nat → Nat} {mA mB : Nat → Nat → Bool}
theorem ahead_no (a v : Int) (h : LT w x va fa ia vc fc ic n nw P TA TB gA gB mA mB W) (ha : inN n a = false) :
    Calls Tryd.prog 17 #[.pointer (some ⟨P, 0, none⟩), .int .i64 a, .int .i64 v] W fun e w' => e = .returned (.bool false) ∧ w' = W := by
  have HT := hid (there_f _ P n (some ⟨TA, 0, none⟩) n a false W h.box rfl ha)
  clear h
  go_enter Tryd.func17, Tryd.ntmps17
  go_wp2_with (go_at_call 28; refine HT.out.mono ?_; rintro e w' ⟨rfl, hw⟩; obtain rfl := hw.symm)
  go_ret
  exact ⟨rfl, rfl⟩
theorem behind_no (a v : Int) (h : LT w x va fa ia vc fc ic n nw P TA TB gA gB mA mB W) (hv : inN x.vs.length v = false) :
    Calls Tryd.prog 18 #[.pointer (some ⟨P, 0, none⟩), .int .i64 a, .int .i64 v] W fun e w' => e = .returned (.bool false) ∧ w' = W := by
  obtain ⟨c, hc⟩ : ∃ c, inN n a = c := ⟨_, rfl⟩
  have HT := hid (there_f _ P n (some ⟨TA, 0, none⟩) n a c W h.box rfl hc)
  have HV := hid (variable_f _ P x.vs.length va vc v false W h.box rfl hv)
  clear h hc
  cases c
  all_goals
    go_enter Tryd.func18, Tryd.ntmps18
    go_wp2_with (first
      | (go_at_call 28; refine HT.out.mono ?_; rintro e w' ⟨rfl, hw⟩; obtain rfl := hw.symm)
      | (go_at_call 24; refine HV.out.mono ?_; rintro e w' ⟨rfl, hw⟩; obtain rfl := hw.symm))
    go_ret
    exact ⟨rfl, rfl⟩
theorem hold_no (k v : Int) (b1 b2 : Nat) (h : LT w x va fa ia vc fc ic n nw P TA TB gA gB mA mB W) (hv : inN x.vs.length v = false) (h1 : W.heap[b1]? = some (.cells #[.pointer (some ⟨P, 0, none⟩)] 33 (0, 0))) (h2 : W.heap[b2]? = some (.cells #[.int .i64 v] 3 (0, 0))) :
    Calls Tryd.prog 35 #[.int .i64 k, .pointer (some ⟨b1, 0, none⟩), .pointer (some ⟨b2, 0, none⟩)] W fun e w' => e = .returned (.bool false) ∧ ∃ q, w' = W.drewN q := by
  have HV : Hid (∀ n', Calls Tryd.prog 24 #[.pointer (some ⟨P, 0, none⟩), .int .i64 v] (W.drewN n') fun e w' => e = .returned (.bool false) ∧ ∃ n', w' = W.drewN n') := hid (fun n' => (variable_f _ P x.vs.length va vc v false (W.drewN n') (h.drew n').box rfl hv).mono fun e w' q => ⟨q.1, n', q.2⟩)
  have c1 := cells_at h1 0
  have c2 := cells_at h2 0
  clear h h1 h2
  go_enter Tryd.func35, Tryd.ntmps35
  go_wp2
  go_quiet (first | (go_at_call 24; with_reducible exact HV.out _))
  go_wp2
  go_ret
  exact ⟨rfl, _, rfl⟩
end
end Go.Proofs.YtlbcinanpnjjjaaDoor
