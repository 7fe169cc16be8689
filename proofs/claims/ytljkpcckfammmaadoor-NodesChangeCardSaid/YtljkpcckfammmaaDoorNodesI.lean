/- The contract of the chapter's examples (layer nodes, 3). -/
import Derived.Test.YtljkpcckfammmaaDoorNodesH
namespace Go.Proofs.YtljkpcckfammmaaDoor.Nodes
open Go.ChangeShapes Go.WideShapes Go.ChangeAt Go.RowKit
set_option linter.unusedVariables false
theorem Rd_lit (w : World) (zs : List Int) (t : TypeId) : Rd (w.alloc (.cells (zs.map (Value.int .i64)).toArray t)) (some ⟨w.heap.size, 0, none⟩) zs := by
  refine .inr ⟨_, 0, rfl, fun i hi => ?_⟩
  rw [Nat.zero_add]
  have h := World.alloc_heap_new w (.cells (zs.map (Value.int .i64)).toArray t)
  simp only [World.cell?, h]
  simp [hi]
theorem w1_eq : ofL [3, 1, 64] = 10 := by decide +kernel
theorem w2_eq : ofL [1, 3, 5] = 42 := by decide +kernel
theorem w3_eq : mem 10 = [1, 3] := by decide +kernel
theorem w4_eq : firstN 42 2 = 10 := by decide +kernel
theorem w5_eq : belowN 10 3 = 1 := by decide +kernel
theorem w6_eq : textN 10 = [49, 44, 51] := by
  unfold textN
  rw [if_neg (by omega), w3_eq, show ([1, 3] : List Nat) = [1] ++ [3] from rfl, txt_snoc _ _ (by simp), txt_one, dec_one (by omega), dec_one (by omega)]
  rfl
theorem works_any (w : World) (hT : Tabs w) :
    Calls Tryd.prog 16 #[] w fun e w' => e = .returned (.bool true) ∧ Below w.heap.size w w' := by
  have C1 := Lib.hid (of_any (some ⟨w.heap.size, 0, none⟩) 3 3 [3, 1, 64] _ rfl (by omega) (Rd_lit w [3, 1, 64] 3))
  rw [w1_eq] at C1
  have hB1 : Below w.heap.size w (w.alloc (.cells #[.int .i64 3, .int .i64 1, .int .i64 64] 3)) := (Below.refl _ _).alloc (Nat.le_refl _) _
  have CT := Lib.hid (text_any 10 (by omega) _ (hT.below hB1))
  rw [w6_eq] at CT
  have CC := Lib.hid (fun W => count_any 10 (by omega) W)
  rw [w3_eq] at CC
  have C2 := Lib.hid (fun W => of_any (some ⟨W.heap.size, 0, none⟩) 3 3 [1, 3, 5] _ rfl (by omega) (Rd_lit W [1, 3, 5] 3))
  rw [w2_eq] at C2
  have CF := Lib.hid (fun W => first_any 42 (by omega) 2 (by omega) (by omega) W)
  rw [show (2 : Int).toNat = 2 from rfl, w4_eq] at CF
  have CB := Lib.hid (fun W => below_any 10 (by omega) 3 (by omega) (by omega) W)
  rw [w5_eq] at CB
  clear hT
  go_enter Tryd.func16, Tryd.ntmps16
  go_wp2_with fail
  refine (C1.out).mono ?_; rintro e w' ⟨rfl, rfl⟩
  go_wp2_with fail
  refine (CT.out).mono ?_; rintro e w2 ⟨rfl, hB2⟩
  go_wp2_with fail
  refine (CC.out _).mono ?_; rintro e w' ⟨rfl, rfl⟩
  go_wp2_with fail
  refine (C2.out _).mono ?_; rintro e w' ⟨rfl, rfl⟩
  go_wp2_with fail
  refine (CF.out _).mono ?_; rintro e w' ⟨rfl, rfl⟩
  go_wp2_with fail
  refine (CB.out _).mono ?_; rintro e w' ⟨rfl, rfl⟩
  go_wp2_with fail
  go_ret
  have h2 := hB2.size
  rw [World.size_alloc] at h2
  exact ⟨rfl, (hB1.trans (hB2.mono (by simp))).alloc (by omega) _⟩
end Go.Proofs.YtljkpcckfammmaaDoor.Nodes
