/- Contracts for layer key (6): a rising list with one more (the document's own answer). -/
import Derived.Test.YtolcidilnmjlmaaKeyB
import Derived.Deep.RegionHeld3
import Derived.Deep.RegionHeldLaw
namespace Go.Proofs.Ytolcidilnmjlmaa.Key
open Go.ChangeShapes Go.WideShapes Go.ChangeAt Go.RowKit
set_option linter.unusedVariables false
def insK (x : Ky) : List Ky → List Ky
  | [] => [x]
  | y :: l => if ltK x y then x :: y :: l else y :: insK x l
def intoK (l : List Ky) (x : Ky) : List Ky := if inK l x then l else insK x l
theorem insK_any {x y : Ky} : ∀ {l : List Ky}, l.any (ltK x) = true → insK x (l ++ [y]) = insK x l ++ [y]
  | [], h => by simp at h
  | z :: l, h => by
    simp only [List.cons_append, insK]
    by_cases hz : ltK x z = true
    · simp [hz]
    · simp only [hz, Bool.false_eq_true, if_false, List.cons_append]
      rw [insK_any (by simpa [hz] using h)]
theorem insK_none {x : Ky} : ∀ {l : List Ky}, l.any (ltK x) = false → insK x l = l ++ [x]
  | [], _ => rfl
  | z :: l, h => by
    simp only [List.any_cons, Bool.or_eq_false_iff] at h
    simp only [insK, h.1, Bool.false_eq_true, if_false, List.cons_append, insK_none h.2]
theorem insK_hit {x y : Ky} : ∀ {l : List Ky}, l.any (ltK x) = false → ltK x y = true → insK x (l ++ [y]) = l ++ [x] ++ [y]
  | [], _, hy => by simp [insK, hy]
  | z :: l, h, hy => by
    simp only [List.any_cons, Bool.or_eq_false_iff] at h
    simp only [List.cons_append, insK, h.1, Bool.false_eq_true, if_false, insK_hit h.2 hy]
theorem insK_len (x : Ky) : ∀ l : List Ky, (insK x l).length = l.length + 1
  | [] => rfl
  | z :: l => by
    unfold insK
    split
    · simp
    · simp [insK_len x l]
/-- What has come out by then. -/
def outK (x : Ky) (l : List Ky) : List Ky := if l.any (ltK x) then insK x l else l
theorem outK_len (x : Ky) (l : List Ky) : (outK x l).length ≤ l.length + 1 := by
  unfold outK; split
  · rw [insK_len]; omega
  · omega
theorem box_below (w : World) (o : Obj) : Below w.heap.size w (w.alloc o) := (Below.refl _ _).alloc (Nat.le_refl _) _
theorem cell_temp (w : World) (x : Ky) : ∀ j u, (enc x)[j]? = some u → (w.alloc (.cells #[.int .i64 x.1, .int .i64 x.2.1, .int .u32 x.2.2] 34)).cell? ((⟨w.heap.size, 0, none⟩ : Addr).add j) = some u := fun j u hu => by
  have h := Rw.At.box (enc := enc) (e := 34) w x #[.int .i64 x.1, .int .i64 x.2.1, .int .u32 x.2.2] rfl j u hu
  rw [Addr.add_lit]
  exact h
theorem out_step {wr W w2 : World} {base : Nat} {v v' : Value} {l : List Ky} {y : Ky} {tmp : Obj} (hown : OwnK wr base v l) (hB : Below wr.heap.size wr W) (hb : base ≤ wr.heap.size)
    (h : w2.ownsRow base 34 3 v' (l.length + 1) (l.flatMap enc ++ enc y)) (hg : (W.alloc tmp).grownBy w2 v.ownBlock) :
    OwnK w2 base v' (l ++ [y]) ∧ Below base wr w2 ∧ base ≤ w2.heap.size :=
  ⟨Rw.OwnS.snoc enc_len h, (hB.mono hb).trans (Own.below_append (hown.below hB) (Nat.le_trans hb hB.size) hg), by
    have h1 := hg.size
    rw [World.size_alloc] at h1
    have := hB.size
    omega⟩
set_option maxRecDepth 100000 in
theorem rinto_any (ad : Option Addr) (len cap : Nat) (l : List Ky) (x : Ky) (w : World) (hlen : l.length = len) (hm : len ≤ 1000000) (hr : RdK w ad l) (hcap : len ≤ cap) :
    Calls Try.prog 13 #[.slice ad len cap, kval x] w fun e w' => ∃ ad' cap', e = .returned (.slice ad' (intoK l x).length cap') ∧ RdK w' ad' (intoK l x) ∧ (intoK l x).length ≤ cap' ∧ Below w.heap.size w w' := by
  obtain ⟨i0, hi, hz0, hz1, hz2⟩ := info_parts infoKey
  obtain ⟨w0, hw0⟩ : ∃ w0, Hid (w0 = w.alloc (.cells #[.int .i64 x.1, .int .i64 x.2.1, .int .u32 x.2.2] 34)) := ⟨_, Lib.hid rfl⟩
  have HX : Hid (Rw.At enc w0 w.heap.size 0 x) := Lib.hid (by rw [hw0.out]; exact Rw.At.box w x _ rfl)
  have hlt0 : w.heap.size < w0.heap.size := by rw [hw0.out, World.size_alloc]; omega
  have HB0 : Hid (Below w.heap.size w w0) := Lib.hid (by rw [hw0.out]; exact box_below _ _)
  have HR := Lib.hid hr
  have HL := Lib.hid hlen
  have CI : Hid (Calls Try.prog 35 #[.slice ad len cap, kval x] (w.alloc (.cells #[.int .i64 x.1, .int .i64 x.2.1, .int .u32 x.2.2] 34)) fun e w' => e = .returned (.bool (inK l x)) ∧ Below w0.heap.size w0 w') := Lib.hid (by
    rw [← hw0.out]
    exact rin_any ad len cap l x w0 hlen (by omega) (hr.below HB0.out))
  have CL : Hid (∀ y wr W, Below wr.heap.size wr W → Calls Try.prog 36 #[kval x, kval y] W fun e w' => e = .returned (.bool (ltK x y)) ∧ Below wr.heap.size wr w') := Lib.hid (fun y wr W hW => (rless_any x y W).mono fun e w' h => ⟨h.1, hW.trans (h.2.mono hW.size)⟩)
  have HI : Hid (intoK l x = if inK l x then l else insK x l) := Lib.hid rfl
  clear hlen hr
  generalize hr : inK l x = r at *
  have HXI : Hid (inK l x = r) := Lib.hid hr
  clear hr
  have HXV := Lib.hid (show kval x = .agg #[.int .i64 x.1, .int .i64 x.2.1, .int .u32 x.2.2] from rfl)
  have HCT := Lib.hid (fun W => cell_temp W x)
  cases r with
  | true =>
    simp only [if_true] at HI
    rw [HI.out, HL.out]
    unfold kval at *
    go_enter Try.func13, Try.ntmps13
    go_wp2_with fail
    refine (CI.out).mono ?_; rintro e w1 ⟨rfl, hB⟩
    go_wp2_with fail
    go_ret
    have hB' := HB0.out.trans (hB.mono HB0.out.size)
    exact ⟨_, _, rfl, HR.out.below hB', hcap, hB'⟩
  | false =>
    simp only [Bool.false_eq_true, if_false] at HI
    rw [HI.out]
    clear HI HXI
    obtain ⟨p, q, s⟩ := x
    unfold kval at CI CL HXV
    simp only at CI CL HCT
    unfold kval
    go_enter Try.func13, Try.ntmps13
    go_wp2_with fail
    refine (CI.out).mono ?_; rintro e w1 ⟨rfl, hB⟩
    have hw1 := hB.size
    have HBa : Hid (Below w.heap.size w (w1.alloc (.cells #[] 34))) := Lib.hid ((HB0.out.trans (hB.mono HB0.out.size)).trans ((box_below w1 _).mono (by omega)))
    have HBx : Hid (Below w0.heap.size w0 (w1.alloc (.cells #[] 34))) := Lib.hid (hB.trans ((box_below w1 _).mono (by omega)))
    have HK : Hid (OwnK (w1.alloc (.cells #[] 34)) w1.heap.size (.slice (some ⟨w1.heap.size, 0, none⟩) 0 0) (outK (p, q, s) (l.take 0))) := Lib.hid (by
      rw [List.take_zero]
      exact Rw.OwnS.lit (enc := enc) (k := 3) w1 [] enc_len (by simp))
    clear CI hB
    go_wp2_with fail
    go_loopw [5, 6, 7] (fun v b i wr => ∃ k : Nat, k ≤ len ∧ i = .int .i64 k ∧ b = .bool ((l.take k).any (ltK (p, q, s))) ∧ OwnK wr w1.heap.size v (outK (p, q, s) (l.take k)) ∧ Hid (Below w.heap.size w wr) ∧ Hid (Below w0.heap.size w0 wr) ∧ w1.heap.size ≤ wr.heap.size) (fun _ _ i _ => len - (intOf i).toNat)
    case atStart => exact ⟨0, Nat.zero_le _, rfl, rfl, HK.out, HBa, HBx, by simp⟩
    case round =>
      obtain ⟨k, hk, rfl, rfl, hown, hBw, hBx, hsz⟩ := hrel
      by_cases hlt : k < len
      · obtain ⟨b, off, rfl, hbw, hc⟩ := HR.out.at_ (i := k) (by rw [HL.out]; exact hlt)
        have HS := Lib.hid (take_succ' (l := l) (k := k) (by rw [HL.out]; exact hlt))
        have hT : Hid ((l.take k).length = k) := Lib.hid (by rw [List.length_take, HL.out]; omega)
        have hol := outK_len (p, q, s) (l.take k)
        rw [hT.out] at hol
        have HC : Hid (∀ W, Below w1.heap.size wr W → Rw.At enc W b (off + k * 3) (l.getD k default) ∧ Rw.At enc W w.heap.size 0 (p, q, s)) := Lib.hid (fun W hW => ⟨hc.below (hBw.out.trans (hW.mono (by have := HB0.out.size; omega))) hbw, HX.out.below (hBx.out.trans (hW.mono hw1)) hlt0⟩)
        generalize hyv : l.getD k default = y at *
        have hyv' := Lib.hid hyv
        clear hyv
        obtain ⟨a, b', c⟩ := y
        have hCT2 := Lib.hid (fun W => cell_temp W (a, b', c))
        have HCA : Hid (∀ W, Below w1.heap.size wr W → (W.cell? ⟨b, off + k * 3, none⟩ = some (.int .i64 a) ∧ W.cell? ⟨b, off + k * 3 + 1, none⟩ = some (.int .i64 b') ∧ W.cell? ⟨b, off + k * 3 + 2, none⟩ = some (.int .u32 c)) ∧
            (W.cell? ⟨w.heap.size, 0, none⟩ = some (.int .i64 p) ∧ W.cell? ⟨w.heap.size, 1, none⟩ = some (.int .i64 q) ∧ W.cell? ⟨w.heap.size, 2, none⟩ = some (.int .u32 s))) := Lib.hid (fun W hW => by
          obtain ⟨h1, h2⟩ := HC.out W hW
          have h3 := at3 h1
          have h4 := at3 h2
          simp only [Nat.zero_add] at h4
          exact ⟨h3, h4⟩)
        have HCC := Lib.hid (fun W (hW : Below wr.heap.size wr W) => HCA.out W (hW.mono hsz))
        have CLk := Lib.hid (CL.out (a, b', c) wr)
        simp only at CLk
        simp only at hCT2
        have HOW := Lib.hid hown
        clear hc HC
        cases hf : (l.take k).any (ltK (p, q, s)) with
        | true =>
          have HE : Hid (outK (p, q, s) (l.take (k + 1)) = outK (p, q, s) (l.take k) ++ [(a, b', c)] ∧ (l.take (k + 1)).any (ltK (p, q, s)) = true) := Lib.hid (by
            have : (l.take (k + 1)).any (ltK (p, q, s)) = true := by rw [HS.out, List.any_append, hf]; rfl
            refine ⟨?_, this⟩
            unfold outK
            rw [this, hf, if_pos rfl, if_pos rfl, HS.out, insK_any hf])
          clear hf CLk
          obtain ⟨⟨c0, c1, c2⟩, d0, d1, d2⟩ := HCC.out wr (Below.refl _ _)
          go_wp2_with fail
          go_quiet (fail)
          have hB7 : Below wr.heap.size wr (wr.drewN nq) := Own.below_drewN (Below.refl _ _) nq
          have hown7 := hown.below hB7
          go_wp2_with (at_builtin; refine Own.wpList_append2 _ rfl _ _ 39 rfl w1.heap.size 34 i0 (.agg #[.int .i64 0, .int .i64 0, .int .u32 0]) 3 24 Try.underlying39 hi hz0 hz1 hz2 rfl (by decide) _ _ _ rfl (World.ownsRow.alloc hown7 _) ⟨World.heap _ |>.size, 0, none⟩ 1 1 (enc (a, b', c)) rfl rfl (hCT2.out _) (enc_one _) (by unfold maxLen; omega) (by omega) (by simp; omega) ?_; intro v' w2 hown' hgrow _ _)
          obtain ⟨hown2, hB2, hsz2⟩ := out_step hown hB7 hsz hown' hgrow
          have HB2 : Hid (Below w.heap.size w w2 ∧ Below w0.heap.size w0 w2) := Lib.hid ⟨hBw.out.trans (hB2.mono (by have := HB0.out.size; omega)), hBx.out.trans (hB2.mono (by omega))⟩
          go_roundw
          case rel => exact ⟨k + 1, by omega, by go_num, by rw [HE.out.2], by rw [HE.out.1]; exact hown2, Lib.hid HB2.out.1, Lib.hid HB2.out.2, hsz2⟩
          case measure => simp [intOf]; omega
        | false =>
          have hok : Hid (outK (p, q, s) (l.take k) = l.take k) := Lib.hid (by unfold outK; rw [hf]; rfl)
          rw [hok.out] at hown
          cases hlt2 : ltK (p, q, s) (a, b', c) with
          | true =>
            have HE : Hid (outK (p, q, s) (l.take (k + 1)) = l.take k ++ [(p, q, s)] ++ [(a, b', c)] ∧ (l.take (k + 1)).any (ltK (p, q, s)) = true) := Lib.hid (by
              have : (l.take (k + 1)).any (ltK (p, q, s)) = true := by rw [HS.out, List.any_append, hf]; simp [hlt2]
              refine ⟨?_, this⟩
              unfold outK
              rw [this, if_pos rfl, HS.out, insK_hit hf hlt2])
            have tok1 : True := trivial
            have HKL := Lib.hid (show (l.take k ++ [(p, q, s)]).length = k + 1 by rw [List.length_append, hT.out]; rfl)
            have hkl := hT.out
            rw [hlt2] at CLk
            clear hf hlt2 hok
            go_wp2_with fail
            refine wp_region_noPanic ?_
            go_region_held_law (fun W => Below wr.heap.size wr W ∧ (W.cell? ⟨b, off + k * 3, none⟩ = some (.int .i64 a) ∧ W.cell? ⟨b, off + k * 3 + 1, none⟩ = some (.int .i64 b') ∧ W.cell? ⟨b, off + k * 3 + 2, none⟩ = some (.int .u32 c)) ∧
              (W.cell? ⟨w.heap.size, 0, none⟩ = some (.int .i64 p) ∧ W.cell? ⟨w.heap.size, 1, none⟩ = some (.int .i64 q) ∧ W.cell? ⟨w.heap.size, 2, none⟩ = some (.int .u32 s))) ((refine ⟨?_, HCC.out _ ?_⟩ <;> (first | assumption | exact (Below.refl _ _) | exact (Below.refl _ _).drew)))
              ((go_at_call 36; refine (CLk.out _ ?_).mono ?_; (focus (first | assumption | exact (Below.refl _ _).drew | exact (‹Below wr.heap.size wr _ ∧ _›).1)); rintro e w7 ⟨rfl, hB7⟩))
            rename_i hHeld
            obtain ⟨-, ⟨c0, c1, c2⟩, d0, d1, d2⟩ := hHeld
            have hown7 := hown.below hB7
            have hs7 := hB7.size
            refine NoPanic.normal ?_
            go_wp2_with (first
              | (have _t := tok1; at_builtin; refine Own.wpList_append2 _ rfl _ _ 39 rfl w1.heap.size 34 i0 (.agg #[.int .i64 0, .int .i64 0, .int .u32 0]) 3 24 Try.underlying39 hi hz0 hz1 hz2 rfl (by decide) _ _ _ rfl (World.ownsRow.alloc hown7 _) ⟨World.heap _ |>.size, 0, none⟩ 1 1 (enc (p, q, s)) rfl rfl (HCT.out _) (enc_one _) (by unfold maxLen; omega) (by omega) (by simp; omega) ?_; intro v2 w2 hown' hgrow _ _; clear tok1 c0 c1 c2 d0 d1 d2; obtain ⟨hown2, hB2, hsz2⟩ := out_step hown hB7 hsz hown' hgrow; obtain ⟨⟨c0, c1, c2⟩, d0, d1, d2⟩ := HCA.out w2 hB2; have hkl2 := HKL.out; clear hown7)
              | (at_builtin; refine Own.wpList_append2 _ rfl _ _ 39 rfl w1.heap.size 34 i0 (.agg #[.int .i64 0, .int .i64 0, .int .u32 0]) 3 24 Try.underlying39 hi hz0 hz1 hz2 rfl (by decide) _ _ _ rfl (World.ownsRow.alloc hown2 _) ⟨World.heap _ |>.size, 0, none⟩ 1 1 (enc (a, b', c)) rfl rfl (hCT2.out _) (enc_one _) (by unfold maxLen; omega) (by omega) (by simp; omega) ?_; intro v3 w3 hown3 hgrow3 _ _))
            obtain ⟨hown4, hB4, hsz4⟩ := out_step hown2 (Below.refl _ _) hsz2 hown3 hgrow3
            have HB2 : Hid (Below w.heap.size w w3 ∧ Below w0.heap.size w0 w3) := Lib.hid ⟨hBw.out.trans ((hB2.trans hB4).mono (by have := HB0.out.size; omega)), hBx.out.trans ((hB2.trans hB4).mono (by omega))⟩
            go_roundw
            case rel => exact ⟨k + 1, by omega, by go_num, by rw [HE.out.2], by rw [HE.out.1]; exact hown4, Lib.hid HB2.out.1, Lib.hid HB2.out.2, hsz4⟩
            case measure => simp [intOf]; omega
          | false =>
            have HE : Hid (outK (p, q, s) (l.take (k + 1)) = l.take k ++ [(a, b', c)] ∧ (l.take (k + 1)).any (ltK (p, q, s)) = false) := Lib.hid (by
              have : (l.take (k + 1)).any (ltK (p, q, s)) = false := by rw [HS.out, List.any_append, hf]; simp [hlt2]
              refine ⟨?_, this⟩
              unfold outK
              rw [this]
              simp only [Bool.false_eq_true, if_false]
              exact HS.out)
            have hkl := hT.out
            rw [hlt2] at CLk
            clear hf hlt2 hok
            go_wp2_with fail
            refine wp_region_noPanic ?_
            go_region_held_law (fun W => Below wr.heap.size wr W ∧ (W.cell? ⟨b, off + k * 3, none⟩ = some (.int .i64 a) ∧ W.cell? ⟨b, off + k * 3 + 1, none⟩ = some (.int .i64 b') ∧ W.cell? ⟨b, off + k * 3 + 2, none⟩ = some (.int .u32 c)) ∧
              (W.cell? ⟨w.heap.size, 0, none⟩ = some (.int .i64 p) ∧ W.cell? ⟨w.heap.size, 1, none⟩ = some (.int .i64 q) ∧ W.cell? ⟨w.heap.size, 2, none⟩ = some (.int .u32 s))) ((refine ⟨?_, HCC.out _ ?_⟩ <;> (first | assumption | exact (Below.refl _ _) | exact (Below.refl _ _).drew)))
              ((go_at_call 36; refine (CLk.out _ ?_).mono ?_; (focus (first | assumption | exact (Below.refl _ _).drew | exact (‹Below wr.heap.size wr _ ∧ _›).1)); rintro e w7 ⟨rfl, hB7⟩))
            rename_i hHeld
            obtain ⟨-, ⟨c0, c1, c2⟩, d0, d1, d2⟩ := hHeld
            have hown7 := hown.below hB7
            have hs7 := hB7.size
            refine NoPanic.normal ?_
            go_wp2_with (at_builtin; refine Own.wpList_append2 _ rfl _ _ 39 rfl w1.heap.size 34 i0 (.agg #[.int .i64 0, .int .i64 0, .int .u32 0]) 3 24 Try.underlying39 hi hz0 hz1 hz2 rfl (by decide) _ _ _ rfl (World.ownsRow.alloc hown7 _) ⟨World.heap _ |>.size, 0, none⟩ 1 1 (enc (a, b', c)) rfl rfl (hCT2.out _) (enc_one _) (by unfold maxLen; omega) (by omega) (by simp; omega) ?_; intro v3 w3 hown3 hgrow3 _ _)
            obtain ⟨hown4, hB4, hsz4⟩ := out_step hown hB7 hsz hown3 hgrow3
            have HB2 : Hid (Below w.heap.size w w3 ∧ Below w0.heap.size w0 w3) := Lib.hid ⟨hBw.out.trans (hB4.mono (by have := HB0.out.size; omega)), hBx.out.trans (hB4.mono (by omega))⟩
            go_roundw
            case rel => exact ⟨k + 1, by omega, by go_num, by rw [HE.out.2], by rw [HE.out.1]; exact hown4, Lib.hid HB2.out.1, Lib.hid HB2.out.2, hsz4⟩
            case measure => simp [intOf]; omega
      · obtain rfl : k = len := by omega
        have hT : Hid (l.take k = l) := Lib.hid (List.take_of_length_le (by rw [HL.out]; exact Nat.le_refl _))
        rw [hT.out] at hown
        have hkl := HL.out
        have HSZ : Hid (Below w.heap.size w wr) := hBw
        obtain ⟨c, d0, d1, d2⟩ : True ∧ wr.cell? ⟨w.heap.size, 0, none⟩ = some (.int .i64 p) ∧ wr.cell? ⟨w.heap.size, 1, none⟩ = some (.int .i64 q) ∧ wr.cell? ⟨w.heap.size, 2, none⟩ = some (.int .u32 s) := by
          have h4 := at3 (HX.out.below hBx.out hlt0)
          simp only [Nat.zero_add] at h4
          exact ⟨trivial, h4⟩
        cases hf : l.any (ltK (p, q, s)) with
        | true =>
          have HE : Hid (outK (p, q, s) l = insK (p, q, s) l) := Lib.hid (by unfold outK; rw [hf]; rfl)
          rw [HE.out] at hown
          rw [hT.out, hf]
          clear hf
          obtain ⟨ad2, cap2, rfl, -⟩ := Own.shape hown
          have hrd := hown.rd enc_len
          have hps := hown.pos
          go_wp2_with fail
          go_ret
          exact ⟨_, _, rfl, hrd.1, hps.1, HSZ.out⟩
        | false =>
          have HE : Hid (outK (p, q, s) l = l) := Lib.hid (by unfold outK; rw [hf]; rfl)
          have HE2 : Hid (insK (p, q, s) l = l ++ [(p, q, s)]) := Lib.hid (insK_none hf)
          rw [HE.out] at hown
          rw [hT.out, hf]
          clear hf
          go_wp2_with (at_builtin; refine Own.wpList_append2 _ rfl _ _ 39 rfl w1.heap.size 34 i0 (.agg #[.int .i64 0, .int .i64 0, .int .u32 0]) 3 24 Try.underlying39 hi hz0 hz1 hz2 rfl (by decide) _ _ _ rfl (World.ownsRow.alloc hown _) ⟨World.heap _ |>.size, 0, none⟩ 1 1 (enc (p, q, s)) rfl rfl (HCT.out _) (enc_one _) (by unfold maxLen; omega) (by omega) (by simp; omega) ?_; intro v3 w3 hown3 hgrow3 _ _)
          obtain ⟨hown4, hB4, hsz4⟩ := out_step hown (Below.refl _ _) hsz hown3 hgrow3
          obtain ⟨ad2, cap2, rfl, -⟩ := Own.shape hown4
          have hrd := hown4.rd enc_len
          have hps := hown4.pos
          go_wp2_with fail
          go_ret
          have hl1 : (l ++ [(p, q, s)]).length = k + 1 := by rw [List.length_append, HL.out]; rfl
          have hp1 := hps.1
          rw [hl1] at hp1
          rw [HE2.out, hl1]
          exact ⟨_, _, rfl, hrd.1, hp1, HSZ.out.trans (hB4.mono (by have := HB0.out.size; omega))⟩
end Go.Proofs.Ytolcidilnmjlmaa.Key
