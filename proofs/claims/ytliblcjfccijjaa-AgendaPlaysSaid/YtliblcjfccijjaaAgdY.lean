/- The document's own answers for layer agenda (8): Take where nothing may be taken; the agenda that is handed back the same. -/
import Derived.Test.YtliblcjfccijjaaAgdX
namespace Go.Proofs.Ytliblcjfccijjaa.AgdR
open Go.ChangeShapes Go.WideShapes Go.ChangeAt Go.RowKit
open Go.Proofs.Ytliblcjfccijjaa.Rw Go.Proofs.Ytliblcjfccijjaa.Agd
set_option linter.unusedVariables false
set_option linter.unusedSimpArgs false
set_option maxRecDepth 100000 in
set_option maxHeartbeats 4000000 in
theorem rtake_none (now : Int) (ad : Option Addr) (n cap : Nat) (most : Int) (d : List Th) (w : World) (hn : d.length = n) (hm : n ≤ 100000) (hr : RdR w ad d) (hc : n ≤ cap) (hcm : cap ≤ 9223372036854775807) (hcan : can d now = false) :
    Calls Try.prog 33 #[aval ad n cap most, .int .i64 now] w fun e w' => e = .returned (.tuple #[aval ad n cap most, .int .i64 0, .bool false]) ∧ Below w.heap.size w w' := by
  obtain ⟨wz, hv0⟩ : ∃ wz, Hid (wz = (w.alloc (.cells #[.slice ad n cap, .int .i64 most] 57)).alloc (.cells #[.slice none 0 0, .int .i64 0] 57)) := ⟨_, Lib.hid rfl⟩
  have hBv : Below w.heap.size w wz := by rw [hv0.out]; exact (box_below _ _).alloc (by simp) _
  have hsz : wz.heap.size = w.heap.size + 2 := by rw [hv0.out, World.size_alloc, World.size_alloc]
  have bv0 : Blk wz w.heap.size 57 #[.slice ad n cap, .int .i64 most] := by rw [hv0.out]; exact (Blk.new w _ _).alloc _
  have bv1 : Blk wz (w.heap.size + 1) 57 #[.slice none 0 0, .int .i64 0] := by
    rw [hv0.out]
    have := Blk.new (w.alloc (.cells #[.slice ad n cap, .int .i64 most] 57)) 57 #[.slice none 0 0, .int .i64 0]
    rw [World.size_alloc] at this
    exact this
  have CF := Lib.hid (rfirst_any ad n cap most d wz hn (by omega) (hr.below hBv))
  have HV : Hid (wz.cell? ⟨w.heap.size, 0, none⟩ = some (.slice ad n cap) ∧ wz.cell? ⟨w.heap.size, 1, none⟩ = some (.int .i64 most)) := Lib.hid ⟨bv0.cell 0, bv0.cell 1⟩
  have HI : Hid (∀ w1, Below wz.heap.size wz w1 → (w1.cell? ⟨w.heap.size, 0, none⟩ = some (.slice ad n cap) ∧ w1.cell? ⟨w.heap.size, 1, none⟩ = some (.int .i64 most)) ∧ (w1.cell? ⟨w.heap.size + 1, 0, none⟩ = some (.slice none 0 0) ∧ w1.cell? ⟨w.heap.size + 1, 1, none⟩ = some (.int .i64 0) ∧ w1.frozen? ⟨w.heap.size + 1, 0, none⟩ = false ∧ w1.frozen? ⟨w.heap.size + 1, 1, none⟩ = false) ∧
      (∀ u u', Below w.heap.size w ((w1.setCell ⟨w.heap.size + 1, 0, none⟩ u).setCell ⟨w.heap.size + 1, 1, none⟩ u')) ∧ RdR w1 ad d) := Lib.hid (fun w1 hB => by
    have hB1 := hBv.trans (hB.mono (by omega))
    have k0 := bv0.below hB
    have k1 := bv1.below hB
    exact ⟨⟨k0.cell 0, k0.cell 1⟩, ⟨k1.cell 0, k1.cell 1, k1.free 0, k1.free 1⟩, fun u u' => (hB1.setCell (p := ⟨w.heap.size + 1, 0, none⟩) (by simp) _).setCell (p := ⟨w.heap.size + 1, 1, none⟩) (by simp) _, (hr.below hBv).below hB⟩)
  obtain ⟨c0, c1⟩ := HV.out
  clear bv0 bv1 hBv hsz hr
  unfold aval
  by_cases hdn : d = []
  · rw [show fiI d = -1 from if_pos hdn] at CF
    go_enter Try.func33, Try.ntmps33
    go_upto_region 1 with fail
    rw [← hv0.out]
    go_wp2_with fail
    refine (CF.out).mono ?_; rintro e w1 ⟨rfl, hB1⟩
    obtain ⟨⟨d0, d1⟩, ⟨y0, y1, y2, y3⟩, hBx, -⟩ := HI.out w1 hB1
    have HBx := Lib.hid hBx
    clear c0 c1 hBx
    go_wp2_with fail
    obtain ⟨r0, r1⟩ := setC2 (u0 := .slice ad n cap) (u1 := .int .i64 most) y0 y1
    refine bodyPost_ret (v := .tuple #[.agg #[.slice ad n cap, .int .i64 most], .int .i64 0, .bool false]) (by simp [results, Try.results33, go_sem, r0, r1]) rfl ?_
    exact ⟨rfl, HBx.out _ _⟩
  · have hdue : now < (Agd.hd d).due := (can_false hcan).resolve_left hdn
    obtain ⟨i, hid⟩ : ∃ i, i = fi d := ⟨_, rfl⟩
    have hi : i < n := by rw [hid, ← hn]; exact fi_lt hdn
    have hgi : gt d i = Agd.hd d := by rw [hid]; rfl
    rw [show fiI d = (i : Int) by unfold fiI; rw [if_neg hdn, hid]] at CF
    have HX : Hid (∀ w1, RdR w1 ad d → ∃ b off, ad = some ⟨b, off, none⟩ ∧ w1.cell? ⟨b, off + i * 2, none⟩ = some (.int .i64 (Agd.hd d).due)) := Lib.hid (fun w1 hr => by
      obtain ⟨b, off, e, -, hx⟩ := hr.at_ (i := i) (by omega)
      have e2 : d.getD i default = Agd.hd d := hgi
      rw [e2] at hx
      exact ⟨b, off, e, (at2 hx).1⟩)
    generalize (Agd.hd d).due = vd at *
    have t1 : decide (vd > now) = true := by simp; omega
    have t2 : decide (now < vd) = true := by simp; omega
    clear hgi hid hcan hdn
    go_enter Try.func33, Try.ntmps33
    go_upto_region 1 with fail
    rw [← hv0.out]
    go_wp2_with fail
    refine (CF.out).mono ?_; rintro e w1 ⟨rfl, hB1⟩
    obtain ⟨⟨d0, d1⟩, ⟨y0, y1, y2, y3⟩, hBx, hrw⟩ := HI.out w1 hB1
    obtain ⟨b, off, rfl, x0⟩ := HX.out w1 hrw
    have HBx := Lib.hid hBx
    clear c0 c1 hBx hrw
    go_wp2_with fail
    obtain ⟨r0, r1⟩ := setC2 (u0 := .slice (some ⟨b, off, none⟩) n cap) (u1 := .int .i64 most) y0 y1
    refine bodyPost_ret (v := .tuple #[.agg #[.slice (some ⟨b, off, none⟩) n cap, .int .i64 most], .int .i64 0, .bool false]) (by simp [results, Try.results33, go_sem, r0, r1]) rfl ?_
    exact ⟨rfl, HBx.out _ _⟩
end Go.Proofs.Ytliblcjfccijjaa.AgdR
