/- The document's own answers for layer table (7): Put of a new row. -/
import Derived.Test.YtolcidilnmjlmaaTblZ
namespace Go.Proofs.Ytolcidilnmjlmaa.TblR
open Go.ChangeShapes Go.WideShapes Go.ChangeAt Go.RowKit
open Go.Proofs.Ytolcidilnmjlmaa.Key Go.Proofs.Ytolcidilnmjlmaa.Rw Go.Proofs.Ytolcidilnmjlmaa.Tbl Go.Proofs.Ytolcidilnmjlmaa.TblL
set_option linter.unusedVariables false
set_option linter.unusedSimpArgs false
theorem pos_below {d : List Row} {k : Ky} {j : Nat} (h : j < pos (keys d) k) : j < d.length ∧ ltK (d.getD j default).1 k = true := by
  have hl : j < d.length := by have := pos_le (keys d) k; rw [keys_len] at this; omega
  have := pos_lt h
  refine ⟨hl, ?_⟩
  rw [← this]
  simp [keys, List.getD, hl]
theorem keys_getD {d : List Row} {j : Nat} (h : j < d.length) : (keys d).getD j default = (d.getD j default).1 := by simp [keys, List.getD, h]
theorem pos_at' {d : List Row} {k : Ky} (h : pos (keys d) k < d.length) : ltK (d.getD (pos (keys d) k) default).1 k = false := by
  rw [← keys_getD h]
  exact pos_stop (by rw [keys_len]; exact h)
set_option maxRecDepth 100000 in
set_option maxHeartbeats 2000000 in
theorem rput_in (ad : Option Addr) (cap : Nat) (most : Int) (d : List Row) (k : Ky) (v : Int) (w : World) (hm : d.length ≤ 1000000) (hr : RdR w ad d) (hcap : d.length ≤ cap) (hcm : cap ≤ 9223372036854775807)
    (had : (ad = none ∧ cap = 0) ∨ ∃ b off, ad = some ⟨b, off, none⟩)
    (hl : (lookR d k).isSome = false) (hlt : (d.length : Int) < most) :
    Calls Try.prog 15 #[tval ad d.length cap most, kval k, .int .i64 v] w (PutPost ad cap most d k v w) := by
  obtain ⟨i0, hi0, hz0, hz1, hz2⟩ := info_parts infoRow
  obtain ⟨w0, hw0⟩ : ∃ w0, Hid (w0 = ((w.alloc (.cells #[.slice ad d.length cap, .int .i64 most] 27)).alloc (.cells #[.int .i64 k.1, .int .i64 k.2.1, .int .u32 k.2.2] 34)).alloc (.cells #[.slice none 0 0, .int .i64 0] 27)) := ⟨_, Lib.hid rfl⟩
  have HX := Lib.hid (PutBox.of ad d.length cap most k w w0 hw0.out)
  have HF : Hid (∀ W, Below w0.heap.size w0 W → PutFacts ad d.length cap most k w W) := Lib.hid (fun W hB => HX.out.facts hB)
  have CA := Lib.hid (rat_any ad d.length cap most d k w0 rfl hm (hr.below HX.out.below))
  have ha : atR d k = -1 := by unfold atR; rw [hl]; rfl
  rw [ha] at CA
  have he : putE most d k = 0 := by unfold putE; rw [hl, if_neg (by simp), if_neg (by omega)]
  have hp : putD most d k v = putR d k v := by unfold putD; rw [hl, if_neg (by simp), if_neg (by omega)]
  obtain ⟨i, hi⟩ : ∃ i, Hid (pos (keys d) k = i) := ⟨_, Lib.hid rfl⟩
  have hin : i ≤ d.length := by rw [← hi.out]; have := pos_le (keys d) k; rw [keys_len] at this; exact this
  have HLT : Hid (∀ j, j < i → ltK (d.getD j default).1 k = true) := Lib.hid (fun j hj => (pos_below (by rw [hi.out]; exact hj)).2)
  have HGE : Hid (i < d.length → ltK (d.getD i default).1 k = false) := Lib.hid (fun h => by have := pos_at' (d := d) (k := k) (by rw [hi.out]; exact h); rw [hi.out] at this; exact this)
  -- the end
  have HP : Hid (∀ ad3 cap3 w3, w3.ownsRow w0.heap.size 63 4 (.slice ad3 (i + 1 + (d.length - i)) cap3) (i + 1 + (d.length - i)) ((d.take i).flatMap encW ++ encW (k, v) ++ (d.drop i).flatMap encW) → Below w0.heap.size w0 w3 →
      PutPost ad cap most d k v w (.returned (.tuple #[.agg #[.slice ad3 (i + 1 + (d.length - i)) cap3, .int .i64 most], .int .i64 0])) ((w3.setCell ⟨w.heap.size + 1 + 1, 0, none⟩ (.slice ad3 (i + 1 + (d.length - i)) cap3)).setCell ⟨w.heap.size + 1 + 1, 1, none⟩ (.int .i64 most))) := Lib.hid (fun ad3 cap3 w3 ho hB => by
    have hlen : (putR d k v).length = i + 1 + (d.length - i) := by rw [put_len]; omega
    refine ⟨ad3, cap3, by rw [hp, he, hlen]; rfl, HX.out.to hB _ _, .inr ?_⟩
    rw [hp, hlen]
    have hne := own_ne ho (HX.out.r.below hB) (by decide)
    have k1 := World.ownsRow.kept ho (setCell_grown w3 (w.heap.size + 1 + 1) 0 (.slice ad3 (i + 1 + (d.length - i)) cap3)) (.inr hne)
    have k2 := World.ownsRow.kept k1 (setCell_grown _ (w.heap.size + 1 + 1) 1 (.int .i64 most)) (.inr hne)
    have k3 := Own.mono (b' := w.heap.size) k2 (by have := HX.out.size; omega)
    unfold OwnR OwnS
    rw [hlen]
    have hf : (putR d k v).flatMap encW = (d.take i).flatMap encW ++ encW (k, v) ++ (d.drop i).flatMap encW := by
      unfold putR
      rw [hi.out]
      simp [List.flatMap_append, List.flatMap_cons]
    rw [hf]
    exact k3)
  -- what is read of the old rows, in whatever world that keeps what lay ahead
  have HS : Hid (∀ W, Below w0.heap.size w0 W → RdR W ad d) := Lib.hid (fun W hB => hr.below (HX.out.below.trans (hB.mono HX.out.below.size)))
  have HRD : Hid (∀ W, Below w0.heap.size w0 W → ∀ b off, ad = some ⟨b, off, none⟩ → (∀ j u, ((d.take i).flatMap encW)[j]? = some u → W.cell? ((⟨b, off, none⟩ : Addr).add j) = some u) ∧ (∀ j u, ((d.drop i).flatMap encW)[j]? = some u → W.cell? ((⟨b, off + i * 4, none⟩ : Addr).add j) = some u)) := Lib.hid (fun W hB b off e => by
    subst e
    have hk : ∀ j u, (d.flatMap encW)[j]? = some u → W.cell? ⟨b, off + j, none⟩ = some u := fun j u hu => by
      refine rd_flat (fun t ht => ?_) j u hu
      obtain ⟨b2, off2, e, -, h⟩ := (HS.out W hB).at_ (i := t) ht
      simp at e
      obtain ⟨rfl, rfl⟩ := e
      exact h
    refine ⟨fun j u hu => ?_, fun j u hu => ?_⟩
    · rw [Addr.add_lit]
      refine hk j u ?_
      rw [← flatR_take, List.getElem?_take] at hu
      split at hu
      · exact hu
      · cases hu
    · rw [Addr.add_lit, Nat.add_assoc]
      refine hk _ u ?_
      rw [← flatR_drop, List.getElem?_drop] at hu
      exact hu)
  have CL : Hid (∀ x wr W, Below wr.heap.size wr W → Calls Try.prog 36 #[kval x, kval k] W fun e w' => e = .returned (.bool (ltK x k)) ∧ Below wr.heap.size wr w') := Lib.hid (fun x wr W hW => (rless_any x k W).mono fun e w' h => ⟨h.1, hW.trans (h.2.mono hW.size)⟩)
  have ht4 : ((d.take i).flatMap encW).length = i * 4 := by rw [flatR_len, List.length_take, Nat.min_eq_left hin]
  have hd4 : ((d.drop i).flatMap encW).length = (d.length - i) * 4 := by rw [flatR_len, List.length_drop]
  have HCT := Lib.hid (fun W => cell_tempR W (k, v))
  have HL := Lib.hid (rfl : d.length = d.length)
  obtain ⟨⟨c0, c1⟩, ⟨k0, k1, k2⟩, -⟩ := HF.out w0 (Below.refl _ _)
  clear hr ha he hp hl
  obtain ⟨p, q, s⟩ := k
  unfold kval tval at *
  simp only at CA k0 k1 k2 hw0 HCT
  obtain ⟨n, hn⟩ : ∃ n, Hid (d.length = n) := ⟨_, Lib.hid rfl⟩
  rw [hn.out] at CA c0 hw0 HP HF hin hlt hm hcap hd4 HGE ⊢
  go_enter Try.func15, Try.ntmps15
  go_upto_region 1 with fail
  rw [← hw0.out]
  go_wp2_with fail
  refine (CA.out).mono ?_; rintro e w1 ⟨rfl, hB1⟩
  have HB1 := Lib.hid hB1
  obtain ⟨⟨d0, d1⟩, -⟩ := HF.out w1 hB1
  clear hB1 c0 c1 k0 k1 k2 CA
  go_upto_block 0 with fail
  go_cut [8] from 22 to 38 (fun v W => v = .int .i64 i ∧ Hid (Below w0.heap.size w0 W))
  case first =>
    go_wp2_with fail
    go_loopw [8] (fun v wr => ∃ j : Nat, j ≤ i ∧ v = .int .i64 j ∧ Hid (Below w0.heap.size w0 wr)) (fun v _ => n - (intOf v).toNat)
    case atStart => exact ⟨0, Nat.zero_le _, rfl, HB1⟩
    case round =>
    obtain ⟨j, hj, rfl, hB⟩ := hrel
    by_cases hji : j < i
    · have hT := HLT.out j hji
      have hjn : j < n := by omega
      obtain ⟨b, off, rfl, hb, hc⟩ := (HS.out wr hB.out).at_ (i := j) (by rw [hn.out]; omega)
      have hrj : d.getD j default = d.getD j default := rfl
      have CLj := Lib.hid (CL.out (d.getD j default).1 wr)
      rw [hT] at CLj
      have HC : Hid (∀ W, Below wr.heap.size wr W → W.cell? ⟨w.heap.size, 0, none⟩ = some (.slice (some ⟨b, off, none⟩) n cap) ∧ (W.cell? ⟨w.heap.size + 1, 0, none⟩ = some (.int .i64 p) ∧ W.cell? ⟨w.heap.size + 1, 1, none⟩ = some (.int .i64 q) ∧ W.cell? ⟨w.heap.size + 1, 2, none⟩ = some (.int .u32 s)) ∧ (W.cell? ⟨b, off + j * 4, none⟩ = some (.int .i64 (d.getD j default).1.1) ∧ W.cell? ⟨b, off + j * 4 + 1, none⟩ = some (.int .i64 (d.getD j default).1.2.1) ∧ W.cell? ⟨b, off + j * 4 + 2, none⟩ = some (.int .u32 (d.getD j default).1.2.2))) := Lib.hid (fun W hW => by
        have hB' := hB.out.trans (hW.mono hB.out.size)
        obtain ⟨⟨q0, q1⟩, q2, -⟩ := HF.out W hB'
        obtain ⟨f0, f1, f2, f3⟩ := at4 (hc.below hW hb)
        exact ⟨q0, q2, f0, f1, f2⟩)
      clear hrj hc hT
      generalize d.getD j default = y at *
      obtain ⟨⟨x1, x2, x3⟩, xv⟩ := y
      simp only at HC CLj
      obtain ⟨e0, ⟨e1, e2, e3⟩, e4, e5, e6⟩ := HC.out wr (Below.refl _ _)
      go_wp2_with fail
      refine wp_region_noPanic ?_
      go_region_held_law (fun W => Below wr.heap.size wr W ∧ W.cell? ⟨w.heap.size, 0, none⟩ = some (.slice (some ⟨b, off, none⟩) n cap) ∧ (W.cell? ⟨w.heap.size + 1, 0, none⟩ = some (.int .i64 p) ∧ W.cell? ⟨w.heap.size + 1, 1, none⟩ = some (.int .i64 q) ∧ W.cell? ⟨w.heap.size + 1, 2, none⟩ = some (.int .u32 s)) ∧ (W.cell? ⟨b, off + j * 4, none⟩ = some (.int .i64 x1) ∧ W.cell? ⟨b, off + j * 4 + 1, none⟩ = some (.int .i64 x2) ∧ W.cell? ⟨b, off + j * 4 + 2, none⟩ = some (.int .u32 x3))) ((refine ⟨?_, HC.out _ ?_⟩ <;> (first | assumption | exact (Below.refl _ _) | exact (Below.refl _ _).drew)))
        ((go_at_call 36; (with_reducible refine (CLj.out _ ?_).mono ?_); (focus (first | assumption | exact (Below.refl _ _).drew | exact (‹Below wr.heap.size wr _ ∧ _›).1)); rintro e w9 ⟨rfl, hB9⟩))
      all_goals
        refine NoPanic.normal ?_
        have HB9 : Hid (Below w0.heap.size w0 _) := Lib.hid (hB.out.trans ((‹Below wr.heap.size wr _ ∧ _›).1.mono hB.out.size))
        go_wp2_with fail
        go_roundw
        case rel => exact ⟨j + 1, by omega, by go_num, HB9⟩
        case measure => simp [intOf]; omega
    · obtain rfl : j = i := by omega
      by_cases hjn : j < n
      · have hF := HGE.out hjn
        obtain ⟨b, off, rfl, hb, hc⟩ := (HS.out wr hB.out).at_ (i := j) (by rw [hn.out]; omega)
        have hrj : d.getD j default = d.getD j default := rfl
        have CLj := Lib.hid (CL.out (d.getD j default).1 wr)
        rw [hF] at CLj
        have HC : Hid (∀ W, Below wr.heap.size wr W → W.cell? ⟨w.heap.size, 0, none⟩ = some (.slice (some ⟨b, off, none⟩) n cap) ∧ (W.cell? ⟨w.heap.size + 1, 0, none⟩ = some (.int .i64 p) ∧ W.cell? ⟨w.heap.size + 1, 1, none⟩ = some (.int .i64 q) ∧ W.cell? ⟨w.heap.size + 1, 2, none⟩ = some (.int .u32 s)) ∧ (W.cell? ⟨b, off + j * 4, none⟩ = some (.int .i64 (d.getD j default).1.1) ∧ W.cell? ⟨b, off + j * 4 + 1, none⟩ = some (.int .i64 (d.getD j default).1.2.1) ∧ W.cell? ⟨b, off + j * 4 + 2, none⟩ = some (.int .u32 (d.getD j default).1.2.2))) := Lib.hid (fun W hW => by
          have hB' := hB.out.trans (hW.mono hB.out.size)
          obtain ⟨⟨q0, q1⟩, q2, -⟩ := HF.out W hB'
          obtain ⟨f0, f1, f2, f3⟩ := at4 (hc.below hW hb)
          exact ⟨q0, q2, f0, f1, f2⟩)
        clear hrj hc hF
        generalize d.getD j default = y at *
        obtain ⟨⟨x1, x2, x3⟩, xv⟩ := y
        simp only at HC CLj
        obtain ⟨e0, ⟨e1, e2, e3⟩, e4, e5, e6⟩ := HC.out wr (Below.refl _ _)
        go_wp2_with fail
        refine wp_region_noPanic ?_
        go_region_held_law (fun W => Below wr.heap.size wr W ∧ W.cell? ⟨w.heap.size, 0, none⟩ = some (.slice (some ⟨b, off, none⟩) n cap) ∧ (W.cell? ⟨w.heap.size + 1, 0, none⟩ = some (.int .i64 p) ∧ W.cell? ⟨w.heap.size + 1, 1, none⟩ = some (.int .i64 q) ∧ W.cell? ⟨w.heap.size + 1, 2, none⟩ = some (.int .u32 s)) ∧ (W.cell? ⟨b, off + j * 4, none⟩ = some (.int .i64 x1) ∧ W.cell? ⟨b, off + j * 4 + 1, none⟩ = some (.int .i64 x2) ∧ W.cell? ⟨b, off + j * 4 + 2, none⟩ = some (.int .u32 x3))) ((refine ⟨?_, HC.out _ ?_⟩ <;> (first | assumption | exact (Below.refl _ _) | exact (Below.refl _ _).drew)))
          ((go_at_call 36; (with_reducible refine (CLj.out _ ?_).mono ?_); (focus (first | assumption | exact (Below.refl _ _).drew | exact (‹Below wr.heap.size wr _ ∧ _›).1)); rintro e w9 ⟨rfl, hB9⟩))
        all_goals
          refine NoPanic.normal ?_
          have HB9 : Hid (Below w0.heap.size w0 _) := Lib.hid (hB.out.trans ((‹Below wr.heap.size wr _ ∧ _›).1.mono hB.out.size))
          go_wp2_with fail
          go_meet
          case rel => exact ⟨rfl, HB9⟩
      · obtain ⟨⟨e0, e1⟩, -⟩ := HF.out wr hB.out
        obtain rfl : j = n := by omega
        go_wp2_with fail
        go_quiet (fail)
        have HB9 : Hid (Below w0.heap.size w0 _) := Lib.hid (Own.below_drewN hB.out nq)
        go_wp2_with fail
        go_meet
        case rel => exact ⟨rfl, HB9⟩
  case rest =>
    obtain ⟨rfl, hB⟩ := hcut
    obtain ⟨⟨c0, c1⟩, ⟨k0, k1, k2⟩, -⟩ := HF.out wc hB.out
    have hsb := hB.out.size
    have h0 : OwnR (wc.alloc (.cells #[] 63)) w0.heap.size (.slice (some ⟨wc.heap.size, 0, none⟩) 0 0) [] := Own.mono (Rw.OwnS.lit wc [] encW_len (by unfold maxLen; simp)) hsb
    have HBl : Hid (Below w0.heap.size w0 (wc.alloc (.cells #[] 63))) := Lib.hid (hB.out.trans ((box_below wc _).mono hsb))
    obtain ⟨⟨l3, l4⟩, ⟨l5, l6, l7⟩, -⟩ := HF.out _ HBl.out
    have HG : Hid (∀ (w2 w3 : World) (v : Value), Below w0.heap.size w0 w2 → (∀ k, v.ownBlock = some k → w0.heap.size ≤ k) → w2.grownBy w3 v.ownBlock → Below w0.heap.size w0 w3) := Lib.hid (fun w2 w3 v h h1 h2 => h.trans ((Below.refl _ w2).grown h2 h.size (fun k e => h1 k e)))
    have HH0 := Lib.hid h0
    have H8 : Hid (∀ (v2 : Value) (w2 : World), w2.ownsRow w0.heap.size 63 4 v2 i ((d.take i).flatMap encW) → (wc.alloc (.cells #[] 63)).grownBy w2 (Value.slice (some ⟨wc.heap.size, 0, none⟩) 0 0).ownBlock → w2.ownsRow w0.heap.size 63 4 v2 i ((d.take i).flatMap encW) ∧ Below w0.heap.size w0 w2 ∧
        w2.cell? ⟨w.heap.size + 1, 0, none⟩ = some (.int .i64 p) ∧ w2.cell? ⟨w.heap.size + 1, 1, none⟩ = some (.int .i64 q) ∧ w2.cell? ⟨w.heap.size + 1, 2, none⟩ = some (.int .u32 s)) := Lib.hid (fun v2 w2 h hg => by
      have hb := HG.out _ w2 _ HBl.out (fun k e => own_ge HH0.out e) hg
      obtain ⟨-, hk, -⟩ := HF.out w2 hb
      exact ⟨h, hb, hk⟩)
    have H9 : Hid (∀ (v2 : Value) (w2 w3 : World) (o : Obj), Below w0.heap.size w0 w2 → w2.ownsRow w0.heap.size 63 4 v2 i ((d.take i).flatMap encW) → (w2.alloc o).grownBy w3 v2.ownBlock → Below w0.heap.size w0 w3 ∧
        (w3.cell? ⟨w.heap.size, 0, none⟩ = some (.slice ad n cap) ∧ w3.cell? ⟨w.heap.size, 1, none⟩ = some (.int .i64 most)) ∧ w3.cell? ⟨w.heap.size + 1 + 1, 0, none⟩ = some (.slice none 0 0) ∧ w3.cell? ⟨w.heap.size + 1 + 1, 1, none⟩ = some (.int .i64 0) ∧ w3.frozen? ⟨w.heap.size + 1 + 1, 0, none⟩ = false ∧ w3.frozen? ⟨w.heap.size + 1 + 1, 1, none⟩ = false) := Lib.hid (fun v2 w2 w3 o hb h hg => by
      have hb3 := HG.out _ w3 _ (hb.trans ((box_below w2 o).mono hb.size)) (fun k e => own_ge h e) hg
      obtain ⟨ha, -, hr⟩ := HF.out w3 hb3
      exact ⟨hb3, ha, hr⟩)
    have H10 : Hid (∀ (v3 : Value) (w3 : World) (xs : List Value), w3.ownsRow w0.heap.size 63 4 v3 (i + 1) xs → ∀ (wa w4 : World), Below w0.heap.size w0 wa → wa.grownBy w4 v3.ownBlock → Below w0.heap.size w0 w4 ∧
        (w4.cell? ⟨w.heap.size, 0, none⟩ = some (.slice ad n cap) ∧ w4.cell? ⟨w.heap.size, 1, none⟩ = some (.int .i64 most)) ∧ w4.cell? ⟨w.heap.size + 1 + 1, 0, none⟩ = some (.slice none 0 0) ∧ w4.cell? ⟨w.heap.size + 1 + 1, 1, none⟩ = some (.int .i64 0) ∧ w4.frozen? ⟨w.heap.size + 1 + 1, 0, none⟩ = false ∧ w4.frozen? ⟨w.heap.size + 1 + 1, 1, none⟩ = false) := Lib.hid (fun v3 w3 xs h wa w4 hb hg => by
      have hb4 := HG.out wa w4 v3 hb (fun k e => own_ge h e) hg
      obtain ⟨ha, -, hr⟩ := HF.out w4 hb4
      exact ⟨hb4, ha, hr⟩)
    have hb3 : (i : Int) ≤ (cap : Int) := by omega
    have hb4 : (i : Int) ≤ (n : Int) := by omega
    clear CL HLT HGE HB1 d0 d1 hi hB HL HS
    rcases had with ⟨rfl, rfl⟩ | ⟨b, off, rfl⟩
    · obtain rfl : n = 0 := by omega
      obtain rfl : i = 0 := by omega
      rw [Nat.sub_zero] at hd4 HP
      go_wp2_with (first
        | (at_builtin; refine Own.wpList_append2_any _ rfl _ _ 25 rfl w0.heap.size 63 i0 (.agg #[.int .i64 0, .int .i64 0, .int .u32 0, .int .i64 0]) 4 32 Try.underlying25 hi0 hz0 hz1 hz2 rfl (by decide) _ 0 _ rfl h0 none 0 0 ((d.take 0).flatMap encW) rfl ht4 (fun _ => ⟨rfl, rfl⟩) (fun ad e => by cases e) (flatR_one _) (by unfold maxLen; omega) (by omega) (by simp; omega) ?_; intro v2 w2 hown2 hgrow2 _; obtain ⟨hd2, hB2, l0, l1, l2⟩ := H8.out v2 w2 (by simpa using hown2) hgrow2; have HB2 := Lib.hid hB2; clear hB2 hown2 hgrow2)
        | (at_builtin; refine Own.wpList_append2 _ rfl _ _ 25 rfl w0.heap.size 63 i0 (.agg #[.int .i64 0, .int .i64 0, .int .u32 0, .int .i64 0]) 4 32 Try.underlying25 hi0 hz0 hz1 hz2 rfl (by decide) _ _ _ rfl (World.ownsRow.alloc hd2 _) ⟨World.heap _ |>.size, 0, none⟩ 1 1 (encW ((p, q, s), v)) rfl rfl (HCT.out _) (encW_one _) (by unfold maxLen; omega) (by omega) (by have := HB2.out.size; simp; omega) ?_; intro v3 w3 hown3 hgrow3 _ _))
      obtain ⟨hB3, ⟨g0, g1⟩, v0, v1, x0, x1⟩ := H9.out _ _ w3 _ HB2.out hd2 hgrow3
      have hsz3 : w0.heap.size ≤ w3.heap.size := hB3.size
      have HW := Lib.hid (fun wa w4 ha hg => H10.out v3 w3 _ hown3 wa w4 ha hg)
      clear l0 l1 l2
      go_region_law (refine step_append2 _ rfl _ _ 25 rfl w0.heap.size 63 i0 (.agg #[.int .i64 0, .int .i64 0, .int .u32 0, .int .i64 0]) 4 32 Try.underlying25 hi0 hz0 hz1 hz2 rfl (by decide) v3 (0 + 1) ((d.take 0).flatMap encW ++ encW ((p, q, s), v)) ?_ hown3 none 0 0 ((d.drop 0).flatMap encW) ?_ hd4 (fun _ => ⟨rfl, rfl⟩) (fun ad e => by cases e) (flatR_one _) (by unfold maxLen; omega) (by omega) hsz3 ?_; (focus (simp [Act.eval, Act.put])); (focus (simp [Act.eval, Act.put])); intro v4 w4 hown4 hgrow4 _; obtain ⟨ad4, cap4, rfl, -⟩ := Own.shape hown4; obtain ⟨hB4, ⟨f0, f1⟩, u0, u1, y0, y1⟩ := HW.out _ w4 (by first | exact hB3 | exact hB3.drew) hgrow4)
      all_goals
        go_wp2_with fail
        obtain ⟨r0, r1⟩ := setC2 (u0 := .slice ad4 (0 + 1) cap4) (u1 := .int .i64 most) u0 u1
        refine bodyPost_ret (v := .tuple #[.agg #[.slice ad4 (0 + 1) cap4, .int .i64 most], .int .i64 0]) (by simp [results, Try.results15, go_sem, r0, r1]) rfl ?_
        exact HP.out ad4 cap4 w4 hown4 hB4
    · have s1 := (HRD.out _ HBl.out b off rfl).1
      by_cases hcap2 : cap = i
      · have hnil : (d.drop i).flatMap encW = [] := List.eq_nil_of_length_eq_zero (by rw [hd4]; omega)
        obtain rfl : cap = i := hcap2
        obtain rfl : n = cap := by omega
        rw [Nat.sub_self] at hd4 HP
        go_wp2_with (first
          | (at_builtin; refine Own.wpList_append2_any _ rfl _ _ 25 rfl w0.heap.size 63 i0 (.agg #[.int .i64 0, .int .i64 0, .int .u32 0, .int .i64 0]) 4 32 Try.underlying25 hi0 hz0 hz1 hz2 rfl (by decide) _ 0 _ rfl h0 (some ⟨b, off, none⟩) n n ((d.take n).flatMap encW) rfl ht4 (fun e => by cases e) (fun ad e => by cases e; exact s1) (flatR_one _) (by unfold maxLen; omega) (by omega) (by simp; omega) ?_; intro v2 w2 hown2 hgrow2 _; obtain ⟨hd2, hB2, l0, l1, l2⟩ := H8.out v2 w2 (by simpa using hown2) hgrow2; have HB2 := Lib.hid hB2; clear hB2 hown2 hgrow2)
          | (at_builtin; refine Own.wpList_append2 _ rfl _ _ 25 rfl w0.heap.size 63 i0 (.agg #[.int .i64 0, .int .i64 0, .int .u32 0, .int .i64 0]) 4 32 Try.underlying25 hi0 hz0 hz1 hz2 rfl (by decide) _ _ _ rfl (World.ownsRow.alloc hd2 _) ⟨World.heap _ |>.size, 0, none⟩ 1 1 (encW ((p, q, s), v)) rfl rfl (HCT.out _) (encW_one _) (by unfold maxLen; omega) (by omega) (by have := HB2.out.size; simp; omega) ?_; intro v3 w3 hown3 hgrow3 _ _))
        obtain ⟨hB3, ⟨g0, g1⟩, v0, v1, x0, x1⟩ := H9.out _ _ w3 _ HB2.out hd2 hgrow3
        have hsz3 : w0.heap.size ≤ w3.heap.size := hB3.size
        have HW := Lib.hid (fun wa w4 ha hg => H10.out v3 w3 _ hown3 wa w4 ha hg)
        clear l0 l1 l2
        go_region_law (refine step_append2 _ rfl _ _ 25 rfl w0.heap.size 63 i0 (.agg #[.int .i64 0, .int .i64 0, .int .u32 0, .int .i64 0]) 4 32 Try.underlying25 hi0 hz0 hz1 hz2 rfl (by decide) v3 (n + 1) ((d.take n).flatMap encW ++ encW ((p, q, s), v)) ?_ hown3 (some ⟨b, off, none⟩) 0 0 ((d.drop n).flatMap encW) ?_ hd4 (fun e => by cases e) (fun ad e => by cases e; exact fun j u hu => by rw [hnil] at hu; cases hu) (flatR_one _) (by unfold maxLen; omega) (by omega) hsz3 ?_; (focus (simp [Act.eval, Act.put])); (focus (simp [Act.eval, Act.put])); intro v4 w4 hown4 hgrow4 _; obtain ⟨ad4, cap4, rfl, -⟩ := Own.shape hown4; obtain ⟨hB4, ⟨f0, f1⟩, u0, u1, y0, y1⟩ := HW.out _ w4 (by first | exact hB3 | exact hB3.drew) hgrow4)
        all_goals
          go_wp2_with fail
          obtain ⟨r0, r1⟩ := setC2 (u0 := .slice ad4 (n + 1) cap4) (u1 := .int .i64 most) u0 u1
          refine bodyPost_ret (v := .tuple #[.agg #[.slice ad4 (n + 1) cap4, .int .i64 most], .int .i64 0]) (by simp [results, Try.results15, go_sem, r0, r1]) rfl ?_
          exact HP.out ad4 cap4 w4 hown4 hB4
      · have H10s : Hid (∀ w3, Below w0.heap.size w0 w3 → ∀ j u, ((d.drop i).flatMap encW)[j]? = some u → w3.cell? ((⟨b, off + i * 4, none⟩ : Addr).add j) = some u) := Lib.hid (fun w3 h => (HRD.out w3 h b off rfl).2)
        go_wp2_with (first
          | (at_builtin; refine Own.wpList_append2_any _ rfl _ _ 25 rfl w0.heap.size 63 i0 (.agg #[.int .i64 0, .int .i64 0, .int .u32 0, .int .i64 0]) 4 32 Try.underlying25 hi0 hz0 hz1 hz2 rfl (by decide) _ 0 _ rfl h0 (some ⟨b, off, none⟩) i cap ((d.take i).flatMap encW) rfl ht4 (fun e => by cases e) (fun ad e => by cases e; exact s1) (flatR_one _) (by unfold maxLen; omega) (by omega) (by simp; omega) ?_; intro v2 w2 hown2 hgrow2 _; obtain ⟨hd2, hB2, l0, l1, l2⟩ := H8.out v2 w2 (by simpa using hown2) hgrow2; have HB2 := Lib.hid hB2; clear hB2 hown2 hgrow2)
          | (at_builtin; refine Own.wpList_append2 _ rfl _ _ 25 rfl w0.heap.size 63 i0 (.agg #[.int .i64 0, .int .i64 0, .int .u32 0, .int .i64 0]) 4 32 Try.underlying25 hi0 hz0 hz1 hz2 rfl (by decide) _ _ _ rfl (World.ownsRow.alloc hd2 _) ⟨World.heap _ |>.size, 0, none⟩ 1 1 (encW ((p, q, s), v)) rfl rfl (HCT.out _) (encW_one _) (by unfold maxLen; omega) (by omega) (by have := HB2.out.size; simp; omega) ?_; intro v3 w3 hown3 hgrow3 _ _))
        obtain ⟨hB3, ⟨g0, g1⟩, v0, v1, x0, x1⟩ := H9.out _ _ w3 _ HB2.out hd2 hgrow3
        have s2 := H10s.out w3 hB3
        have hsz3 : w0.heap.size ≤ w3.heap.size := hB3.size
        have HW := Lib.hid (fun wa w4 ha hg => H10.out v3 w3 _ hown3 wa w4 ha hg)
        clear l0 l1 l2
        go_region_law (refine step_append2 _ rfl _ _ 25 rfl w0.heap.size 63 i0 (.agg #[.int .i64 0, .int .i64 0, .int .u32 0, .int .i64 0]) 4 32 Try.underlying25 hi0 hz0 hz1 hz2 rfl (by decide) v3 (i + 1) ((d.take i).flatMap encW ++ encW ((p, q, s), v)) ?_ hown3 (some ⟨b, off + i * 4, none⟩) (n - i) (cap - i) ((d.drop i).flatMap encW) ?_ hd4 (fun e => by cases e) (fun ad e => by cases e; exact s2) (flatR_one _) (by unfold maxLen; omega) (by omega) hsz3 ?_; (focus (simp [Act.eval, Act.put])); (focus (simp [Act.eval, Act.put])); intro v4 w4 hown4 hgrow4 _; obtain ⟨ad4, cap4, rfl, -⟩ := Own.shape hown4; obtain ⟨hB4, ⟨f0, f1⟩, u0, u1, y0, y1⟩ := HW.out _ w4 (by first | exact hB3 | exact hB3.drew) hgrow4)
        all_goals
          go_wp2_with fail
          obtain ⟨r0, r1⟩ := setC2 (u0 := .slice ad4 (i + 1 + (n - i)) cap4) (u1 := .int .i64 most) u0 u1
          refine bodyPost_ret (v := .tuple #[.agg #[.slice ad4 (i + 1 + (n - i)) cap4, .int .i64 most], .int .i64 0]) (by simp [results, Try.results15, go_sem, r0, r1]) rfl ?_
          exact HP.out ad4 cap4 w4 hown4 hB4
theorem rput_any (ad : Option Addr) (cap : Nat) (most : Int) (d : List Row) (k : Ky) (v : Int) (w : World) (hm : d.length ≤ 1000000) (hr : RdR w ad d) (hcap : d.length ≤ cap) (hcm : cap ≤ 9223372036854775807)
    (had : (ad = none ∧ cap = 0) ∨ ∃ b off, ad = some ⟨b, off, none⟩) (hdm : (d.length : Int) ≤ most) :
    Calls Try.prog 15 #[tval ad d.length cap most, kval k, .int .i64 v] w (PutPost ad cap most d k v w) := by
  cases hl : (lookR d k).isSome with
  | true => exact rput_no ad cap most d k v w hm hr hdm (.inl hl)
  | false =>
    by_cases h : most - (d.length : Int) = 0
    · exact rput_no ad cap most d k v w hm hr hdm (.inr h)
    · exact rput_in ad cap most d k v w hm hr hcap hcm had hl (by omega)
end Go.Proofs.Ytolcidilnmjlmaa.TblR
