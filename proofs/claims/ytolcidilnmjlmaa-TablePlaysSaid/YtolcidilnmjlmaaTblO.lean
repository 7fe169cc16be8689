/- Contracts of package table (layer 7): the iterator of All. -/
import Derived.RangeFuncNested
import Derived.RangeFuncBound
import Derived.RangeFuncCalls
import Derived.RangeFuncLeaves
import Derived.Shelf.Abstract
import Derived.Shelf.RegionOpen
import Derived.WalkKit
import Derived.OwnWalkIn
import Derived.TacticsInMore
import Derived.LoopNIn
import Derived.LoopIn
import Derived.Test.YtolcidilnmjlmaaTblL
import Derived.Test.YtolcidilnmjlmaaRngA
namespace Go.Proofs.Ytolcidilnmjlmaa.TblL
open Go.ChangeShapes Go.WideShapes Go.ChangeAt Go.RowKit Go.Sort Go.Shelf
open Go.Proofs.Ytolcidilnmjlmaa.Key Go.Proofs.Ytolcidilnmjlmaa.Rw Go.Proofs.Ytolcidilnmjlmaa.Tbl
set_option linter.unusedVariables false
set_option linter.unusedSimpArgs false
attribute [local go_sem] Oper.semAt_some
def rowAt (d : List Row) (i : Nat) : Row := d.getD i ((0, 0, 0), 0)
def encR (d : List Row) (i : Nat) : Array Value := #[kval (rowAt d i).1, .int .i64 (rowAt d i).2]
/-- What the iterator reads between two rounds. -/
def Reads (Bn g : Nat) (d : List Row) (i : Nat) (W : World) : Prop :=
  W.cell? ⟨Bn, 0, none⟩ = some (.pointer (some ⟨g, 0, none⟩)) ∧ ∃ most d' F', TabL W g most d' F' ∧ ∀ j, i ≤ j → j < d.length → lookR d' (rowAt d j).1 = some (rowAt d j).2
theorem own_new {w w' : World} {B : Nat} {v : Value} {l : List Ky} (h : OwnK w B v l) (hk : Rng.KeepNew B w w') : OwnK w' B v l := by
  refine ⟨h.1, ?_⟩
  rcases h.2 with h' | ⟨g', cap, cur, rfl, hb, hh, r⟩
  · exact .inl h'
  · exact .inr ⟨g', cap, cur, rfl, hb, (hk.same g' hb (Array.getElem?_eq_some_iff.1 hh).1).trans hh, r⟩
theorem keepnew_below {B : Nat} {w w' : World} (h : Below w.heap.size w w') : Rng.KeepNew B w w' := ⟨h.size, fun k _ hk => h.block k hk⟩
theorem keys_at (d : List Row) (i : Nat) (hi : i < d.length) : (keys d).getD i default = (rowAt d i).1 := by simp [keys, rowAt, List.getD, hi]
set_option maxRecDepth 100000 in
set_option maxHeartbeats 2000000 in
theorem all1_iter (n : Nat) (hn : 1 ≤ n) (Bn g : Nat) (most : Int) (d : List Row) (F : Nat → Prop) (I : Nat → World → Prop) (W : World) (hd : d.length ≤ 1000000) (hT : TabL W g most d F)
    (hR : ∀ i W1, I i W1 → Reads Bn g d i W1) :
    Rng.Iter Fence.wide n Try.prog 37 #[.pointer (some ⟨Bn, 0, none⟩)] d.length (encR d) I W := by
  intro l J Jx hJI hJB hY hJ0
  have CK := Lib.hid (keys_any g most d F W hT hd)
  have hok : ∀ k ∈ keys d, ok k := by obtain ⟨mb, ov, -, -, -, -, -, -, s7⟩ := hT; exact s7
  have c0 := (hR 0 W (hJI 0 W hJ0)).1
  refine callsIn_of_wp Try.func37 rfl trivial ?_ rfl
  simp only [Try.ntmps37, List.size_toArray, List.length_cons, List.length_nil, Nat.reduceAdd, Nat.reduceSub, Array.replicate_succ, Array.replicate_zero, List.push_toArray, List.append_toArray, List.nil_append, List.cons_append]
  gi_wp2_with (refine ⟨trivial, ?_⟩; gi_at_call 38; refine (callsIn_wide.2 CK.out).mono ?_; rintro e w1 ⟨v, rfl, hO, hB1⟩; obtain ⟨ad, cap, rfl, -⟩ := Own.shape hO)
  obtain ⟨N, hN⟩ : ∃ N, Hid (d.length = N) := ⟨_, Lib.hid rfl⟩
  have hkl : (keys d).length = N := by rw [keys_len]; exact hN.out
  rw [hkl] at hO ⊢
  have HJ1 : Hid (J 0 w1) := Lib.hid (hJB 0 W w1 hJ0 hB1)
  have HO1 := Lib.hid hO
  have HB1 := Lib.hid hB1
  have HY := Lib.hid hY
  have HJB := Lib.hid hJB
  have HJI := Lib.hid hJI
  have HRD := Lib.hid hR
  have HOK := Lib.hid hok
  rw [hN.out] at hd hY
  have hw1 : W.heap.size ≤ w1.heap.size := hB1.size
  clear hO hB1 hY hJB hJI hR hok hJ0 c0 hT CK hkl
  gi_loopw [10] (fun x wr => ∃ i : Nat, i ≤ N ∧ x = .int .i64 i ∧ Hid (J i wr) ∧ Hid (OwnK wr W.heap.size (.slice ad N cap) (keys d)) ∧ W.heap.size ≤ wr.heap.size) (fun x _ => N - (intOf x).toNat)
  case atStart => exact ⟨0, Nat.zero_le _, rfl, HJ1, HO1, hw1⟩
  case round =>
    obtain ⟨i, hi, rfl, hJ, hO, hsz⟩ := hrel
    by_cases hlt : i < N
    · obtain ⟨b, off, rfl, hbw, hc⟩ := (hO.out.rd enc_len).1.at_ (i := i) (by rw [keys_len, hN.out]; exact hlt)
      rw [keys_at d i (by rw [hN.out]; exact hlt)] at hc
      obtain ⟨k0, k1, k2⟩ := at3 hc
      have hko : Hid (ok (rowAt d i).1) := Lib.hid (HOK.out _ (by rw [← keys_at d i (by rw [hN.out]; exact hlt)]; exact getD_mem (by rw [keys_len, hN.out]; exact hlt)))
      obtain ⟨hbc, most', d', F', hT', hlook⟩ := HRD.out i wr (HJI.out i wr hJ.out)
      have hl := hlook i (Nat.le_refl _) (by rw [hN.out]; exact hlt)
      -- Get, in the world that has the key's box
      have hG2 : ∀ o, Gr wr (wr.alloc o) := fun o => (Gr.refl wr).alloc o
      have CG : Hid (∀ o, Calls Try.prog 18 #[.pointer (some ⟨g, 0, none⟩), kval (rowAt d i).1] (wr.alloc o) fun e w' => e = .returned (.tuple #[.int .i64 (rowAt d i).2, .bool true]) ∧ Gr (wr.alloc o) w') := Lib.hid (fun o => by
        have h := get_any (rowAt d i).1 hko.out g most' d' F' (wr.alloc o) (hT'.below (hG2 o).below)
        unfold val0 at h
        rw [hl] at h
        exact h)
      have HYi := Lib.hid (fun W1 => HY.out i W1 (by rw [hN.out]; exact hlt))
      unfold encR at HYi
      have hbl : Bn < wr.heap.size := by
        rw [World.cell?] at hbc
        cases hh : wr.heap[Bn]? with
        | none => rw [hh] at hbc; simp at hbc
        | some o => exact (Array.getElem?_eq_some_iff.1 hh).1
      have HCB : Hid (∀ o, (wr.alloc o).cell? ⟨Bn, 0, none⟩ = some (.pointer (some ⟨g, 0, none⟩))) := Lib.hid (fun o => ((hG2 o).below.cell (p := ⟨Bn, 0, none⟩) hbl).trans hbc)
      have HKB : Hid (∀ o w5, Gr (wr.alloc o) w5 → Below wr.heap.size wr w5) := Lib.hid (fun o w5 h => ((hG2 o).trans h).below)
      clear hbc hT' hlook hl hc
      generalize rowAt d i = r at *
      obtain ⟨⟨p, q, s⟩, v⟩ := r
      have HXB : Hid (∀ w5, Gr (wr.alloc (.cells #[.int .i64 p, .int .i64 q, .int .u32 s] 34)) w5 → w5.cell? ⟨wr.heap.size, 0, none⟩ = some (.int .i64 p) ∧ w5.cell? ⟨wr.heap.size, 1, none⟩ = some (.int .i64 q) ∧ w5.cell? ⟨wr.heap.size, 2, none⟩ = some (.int .u32 s)) := Lib.hid (fun w5 h => by
        have b5 := (Blk.new wr 34 #[.int .i64 p, .int .i64 q, .int .u32 s]).below h.below
        exact ⟨b5.cell 0, b5.cell 1, b5.cell 2⟩)
      unfold kval at *
      simp only at CG HYi k0 k1 k2
      have hcb := HCB.out (.cells #[.int .i64 p, .int .i64 q, .int .u32 s] 34)
      obtain ⟨x0, x1, x2⟩ := HXB.out _ (Gr.refl _)
      gi_wp2_with (refine ⟨trivial, ?_⟩; gi_at_call 18; refine (callsIn_wide.2 (CG.out _)).mono ?_; rintro e w5 ⟨rfl, hG5⟩; obtain ⟨y0, y1, y2⟩ := HXB.out w5 hG5; have hB5 := Lib.hid (HKB.out _ w5 hG5); obtain ⟨fn, tmps, assign, body, hy, hR⟩ := HYi.out w5 (HJB.out i wr w5 hJ.out (hB5.out.mono hsz)))
      refine hR.mono ?_
      rintro e W3 (⟨rfl, hJ3, hk3⟩ | ⟨rfl, hJx3⟩)
      · have HJ3 := Lib.hid hJ3
        have hs3 : W.heap.size ≤ W3.heap.size := Nat.le_trans (Nat.le_trans hsz hB5.out.size) hk3.size
        have HO3 : Hid (OwnK W3 W.heap.size (.slice (some ⟨b, off, none⟩) N cap) (keys d)) := Lib.hid (own_new (hO.out.below hB5.out) hk3)
        clear hJ3 hk3 y0 y1 y2 hy hR
        gi_wp2
        go_roundw
        case rel => exact ⟨i + 1, by omega, by go_num, HJ3, HO3, hs3⟩
        case measure => simp [intOf]; omega
      · have HJ3 := Lib.hid hJx3
        clear hJx3 y0 y1 y2 hy hR
        gi_wp2
        refine bodyPost_ret (results_none rfl _ _ _) rfl ?_
        exact ⟨⟨_, rfl⟩, .inr HJ3.out⟩
    · obtain rfl : i = N := by omega
      have HJN : Hid (J d.length wr) := Lib.hid (by rw [hN.out]; exact hJ.out)
      gi_wp2
      go_end0
      exact ⟨⟨_, rfl⟩, .inl HJN.out⟩
end Go.Proofs.Ytolcidilnmjlmaa.TblL
