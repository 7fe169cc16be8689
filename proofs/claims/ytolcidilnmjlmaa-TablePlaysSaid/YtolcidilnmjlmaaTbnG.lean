/- Contracts of package table (layer 7): New, Len, Room, Get, has, keys. -/
import Derived.Test.YtolcidilnmjlmaaTbnC
import Derived.Test.YtolcidilnmjlmaaTblF
namespace Go.Proofs.Ytolcidilnmjlmaa.TblN
open Go.ChangeShapes Go.WideShapes Go.ChangeAt Go.RowKit Go.Sort
open Go.Proofs.Ytolcidilnmjlmaa.Key Go.Proofs.Ytolcidilnmjlmaa.Rw Go.Proofs.Ytolcidilnmjlmaa.Tbl
set_option linter.unusedVariables false
abbrev TabN (w : World) (g : Nat) (most : Int) (d : List Row) (F : Nat → Prop) : Prop := Tab 79 w g most d F
theorem vof_keys {d : List Row} {k : Ky} (h : k ∈ keys d) : ∃ v, vof d k = some v := by
  obtain ⟨v, hv⟩ := lookR_some h
  exact ⟨_, by unfold vof; rw [hv]; rfl⟩
theorem len_any (g : Nat) (most : Int) (d : List Row) (F : Nat → Prop) (w : World) (h : TabN w g most d F) :
    Calls Try.prog 32 #[.pointer (some ⟨g, 0, none⟩)] w fun e w' => e = .returned (.int .i64 (d.length : Nat)) ∧ w = w' := by
  obtain ⟨mb, ov, h1, h2, h3, h4, h5, h6, h7⟩ := h
  have c1 := h1.cell 1
  simp at c1
  have hr := h2.len kval_inj Try.underlying77 (keys d) (keys_len d) (strR_nodup h4) (fun x hx => vof_keys hx) 3
  clear h1 h2 h3
  go_enter Try.func32, Try.ntmps32
  go_wp2_with (at_builtin; refine wpList_len_runK _ rfl _ 77 rfl _ rfl hr ?_)
  go_ret
  exact ⟨rfl, rfl⟩
theorem room_any (g : Nat) (most : Int) (d : List Row) (F : Nat → Prop) (w : World) (h : TabN w g most d F) (hm : 0 ≤ most ∧ most ≤ 65536) (hd : d.length ≤ 1000000) :
    Calls Try.prog 42 #[.pointer (some ⟨g, 0, none⟩)] w fun e w' => e = .returned (.int .i64 (most - (d.length : Nat))) ∧ Gr w w' := by
  have CL : Hid (∀ W, Gr w W → Calls Try.prog 32 #[.pointer (some ⟨g, 0, none⟩)] W fun e w' => e = .returned (.int .i64 (d.length : Nat)) ∧ W = w') := Lib.hid (fun W hW => len_any g most d F W (h.below hW.below))
  obtain ⟨mb, ov, h1, -⟩ := h
  have HC : Hid (∀ W, Gr w W → W.cell? ⟨g, 0, none⟩ = some (.int .i64 most)) := Lib.hid (fun W hW => (h1.below hW.below).cell 0)
  have c0 := HC.out w (Gr.refl w)
  have hw1 : IntKind.i64.wrap (most - (d.length : Int)) = most - (d.length : Int) := by rw [IntKind.wrap_i64]; omega
  generalize d.length = n at *
  clear h1
  go_enter Try.func42, Try.ntmps42
  go_wp2_with fail
  refine wp_region_noPanic ?_
  go_region_held_law (fun W => Gr w W ∧ W.cell? ⟨g, 0, none⟩ = some (.int .i64 most)) ((refine ⟨?_, HC.out _ ?_⟩ <;> (repeat' (first | assumption | exact Gr.refl _ | exact (‹Gr w _ ∧ _›).1 | refine Gr.drew ?_))))
    ((go_at_call 32; refine (CL.out _ ?_).mono ?_; (focus (first | assumption | exact (‹Gr w _ ∧ _›).1 | exact (Gr.refl w).drew)); rintro e w7 ⟨rfl, rfl⟩))
  rename_i hHeld
  obtain ⟨hG8, -⟩ := hHeld
  have HG8 := Lib.hid hG8
  clear hG8 c0
  refine NoPanic.normal ?_
  go_wp2_with fail
  go_ret
  exact ⟨rfl, HG8.out⟩
def clampM (m : Int) : Int := min (max m 0) 65536
theorem new_any (m : Int) (w : World) :
    Calls Try.prog 29 #[.int .i64 m] w fun e w' => ∃ g, e = .returned (.pointer (some ⟨g, 0, none⟩)) ∧ TabN w' g (clampM m) [] (fun j => w.heap.size ≤ j ∧ j < w'.heap.size) ∧ Below w.heap.size w w' := by
  have hmm := @run_makeMap Try.prog
  have HP : Hid (∀ v, TabN ((w.alloc (.map #[] 0)).alloc (.cells #[.int .i64 v, .map (some w.heap.size), .slice none 0 0] 79)) (w.heap.size + 1) v [] (fun j => w.heap.size ≤ j ∧ j < ((w.alloc (.map #[] 0)).alloc (.cells #[.int .i64 v, .map (some w.heap.size), .slice none 0 0] 79)).heap.size) ∧ Below w.heap.size w ((w.alloc (.map #[] 0)).alloc (.cells #[.int .i64 v, .map (some w.heap.size), .slice none 0 0] 79))) := Lib.hid (fun v => by
    refine ⟨⟨w.heap.size, .slice none 0 0, ?_, ?_, .inl ⟨rfl, none, 0, rfl⟩, List.Pairwise.nil, ⟨by omega, by simp <;> omega⟩, ⟨by omega, by simp <;> omega⟩, by simp [keys]⟩, ((Below.refl _ _).alloc (Nat.le_refl _) _).alloc (by simp) _⟩
    · have := Blk.new (w.alloc (.map #[] 0)) 79 #[.int .i64 v, .map (some w.heap.size), .slice none 0 0]
      rw [World.size_alloc] at this
      exact this
    · have h0 := (Tb.Is.made (P := Try.prog) (k := 34) (kv := kval) w).below (box_below _ (.cells #[.int .i64 v, .map (some w.heap.size), .slice none 0 0] 79))
      exact h0)
  go_enter Try.func29, Try.ntmps29
  go_wp2_with fail
  go_ret
  exact ⟨_, rfl, HP.out _⟩
theorem zeroVal (w : World) : (zeroValue 3).run Try.prog w = .ok (.int .i64 0) w := by kernel_rfl
/-- The value of a row, or nothing's. -/
def val0 (d : List Row) (k : Ky) : Int := (lookR d k).getD 0
theorem get_any (k : Ky) (hk : ok k) (g : Nat) (most : Int) (d : List Row) (F : Nat → Prop) (w : World) (h : TabN w g most d F) :
    Calls Try.prog 53 #[.pointer (some ⟨g, 0, none⟩), kval k] w fun e w' => e = .returned (.tuple #[.int .i64 (val0 d k), .bool (lookR d k).isSome]) ∧ Gr w w' := by
  obtain ⟨mb, ov, h1, h2, -⟩ := h
  obtain ⟨kl, hkl⟩ := key_read k hk
  obtain ⟨w0, hw0⟩ : ∃ w0, Hid (w0 = w.alloc (.cells #[.int .i64 k.1, .int .i64 k.2.1, .int .u32 k.2.2] 34)) := ⟨_, Lib.hid rfl⟩
  have HG0 : Hid (Gr w w0) := Lib.hid (by rw [hw0.out]; exact (Gr.refl w).alloc _)
  have hX : Rw.At enc w0 w.heap.size 0 k := by rw [hw0.out]; exact Rw.At.box w k _ rfl
  have h10 := h1.below HG0.out.below
  have h20 : Tb.Is Try.prog 34 kval w0.drew mb d.length (vof d) := (h2.below HG0.out.below).of_block rfl
  have e1 := h20.look lawK kval_inj Try.underlying77 zeroVal hkl true
  simp only [if_true] at e1
  have ev : (vof d k).getD (.int .i64 0) = .int .i64 (val0 d k) := by unfold vof val0; cases lookR d k <;> rfl
  have es : (vof d k).isSome = (lookR d k).isSome := by unfold vof; cases lookR d k <;> rfl
  rw [ev, es] at e1
  obtain ⟨c1, c2, c3⟩ := at3 hX
  simp only [Nat.zero_add] at c1 c2 c3
  have c0 : w0.cell? ⟨g, 1, none⟩ = some (.map (some mb)) := h10.cell 1
  clear h1 h2 h10 h20 hX ev es hkl
  generalize val0 d k = v at *
  generalize (lookR d k).isSome = b at *
  obtain ⟨p, q, s⟩ := k
  unfold kval at *
  simp only at e1 c1 c2 c3 hw0
  go_enter Try.func53, Try.ntmps53
  go_upto_region 3 with fail
  rw [← hw0.out]
  go_region
  go_wp2_with fail
  go_ret2
  exact ⟨rfl, HG0.out.drew⟩
theorem has_any (k : Ky) (hk : ok k) (g : Nat) (most : Int) (d : List Row) (F : Nat → Prop) (w : World) (h : TabN w g most d F) :
    Calls Try.prog 41 #[.pointer (some ⟨g, 0, none⟩), kval k] w fun e w' => e = .returned (.bool (lookR d k).isSome) ∧ Gr w w' := by
  have CG : Hid (∀ W, Gr w W → Calls Try.prog 53 #[.pointer (some ⟨g, 0, none⟩), kval k] W fun e w' => e = .returned (.tuple #[.int .i64 (val0 d k), .bool (lookR d k).isSome]) ∧ Gr w w') := Lib.hid (fun W hW => (get_any k hk g most d F W (h.below hW.below)).mono fun e w' h => ⟨h.1, hW.trans h.2⟩)
  have HG0 := Lib.hid (fun o => (Gr.refl w).alloc o)
  clear h
  generalize val0 d k = v at *
  generalize (lookR d k).isSome = b at *
  obtain ⟨p, q, s⟩ := k
  unfold kval at *
  simp only at CG
  go_enter Try.func41, Try.ntmps41
  go_wp2_with fail
  refine (CG.out _ (HG0.out _)).mono ?_; rintro e w7 ⟨rfl, hG7⟩
  have HG7 := Lib.hid hG7
  clear hG7
  go_wp2_with fail
  go_ret
  exact ⟨rfl, HG7.out⟩
end Go.Proofs.Ytolcidilnmjlmaa.TblN
