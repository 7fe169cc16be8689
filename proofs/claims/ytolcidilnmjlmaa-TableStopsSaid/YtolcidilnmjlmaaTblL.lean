/- Contracts of package table (layer 7): saysYes (a deferred recover that finds nothing), All. -/
import Derived.Test.YtolcidilnmjlmaaTblK
import Derived.Defers
import Derived.Recover
namespace Go.Proofs.Ytolcidilnmjlmaa.TblL
open Go.ChangeShapes Go.WideShapes Go.ChangeAt Go.RowKit Go.Sort
open Go.Proofs.Ytolcidilnmjlmaa.Key Go.Proofs.Ytolcidilnmjlmaa.Rw Go.Proofs.Ytolcidilnmjlmaa.Tbl
set_option linter.unusedVariables false
set_option linter.unusedSimpArgs false
theorem quiet_recover (w : World) :
    CallsD Try.prog 52 #[] .returning w fun e u' w' => e = .returned (.tuple #[]) ∧ u' = .returning ∧ w' = w := by
  refine callsD_of_wpS Try.func52 rfl fun c₀ cs hu => ?_
  apply wpS_region
  simp [wpOpsS, go_sem, recoverD, hu, Try.ntmps52, Exit.thenS]
  cases c₀
  simp_all [bodyPostS, results, Try.results52]
theorem says_any (k : Ky) (v : Int) (nf : Nat) (nb : Array Value) (b : Bool) (w : World) (eg : ∀ args w, (callFunc nf args).run Try.prog w = .ok (.enter nf args) w)
    (hf : ∀ W, Gr w W → Calls Try.prog nf (#[kval k, .int .i64 v] ++ nb) W fun e w' => e = .returned (.bool b) ∧ Gr W w') :
    Calls Try.prog 40 #[.func (.func nf) #[] nb, kval k, .int .i64 v] w fun e w' => e = .returned (.bool b) ∧ Gr w w' := by
  have HF := Lib.hid hf
  have HG : Hid (∀ o, Gr w (w.alloc o)) := Lib.hid (fun o => (Gr.refl w).alloc o)
  clear hf
  obtain ⟨p, q, s⟩ := k
  unfold kval at *
  simp only at HF
  go_enter_defers Try.func40, Try.ntmps40
  go_wp2_with (go_at_fn nf; refine (HF.out _ (HG.out _)).mono ?_; rintro e w1 ⟨rfl, hG1⟩)
  refine leaves_cons (f := 52) (args := #[]) (by simp) (by simp [go_sem]) ?_
  refine (quiet_recover _).mono ?_
  rintro e u' w'' ⟨rfl, rfl, rfl⟩
  exact ⟨_, results_tmp rfl _ _ _, rfl, (HG.out _).trans hG1⟩
theorem all_any (po : Option Addr) (w : World) :
    Calls Try.prog 16 #[.pointer po] w fun e w' => e = .returned (.func (.func 37) #[] #[.pointer (some ⟨w.heap.size, 0, none⟩)]) ∧ w' = w.alloc (.cells #[.pointer po] 23) := by
  go_enter Try.func16, Try.ntmps16
  go_wp2_with fail
  go_ret
  exact ⟨rfl, rfl⟩
end Go.Proofs.Ytolcidilnmjlmaa.TblL
