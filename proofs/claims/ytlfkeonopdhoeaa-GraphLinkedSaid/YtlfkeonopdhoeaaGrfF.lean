/- Contracts of package graph (layer 16): all links; a graph without the links of some nodes. -/
import Derived.Test.YtlfkeonopdhoeaaGrfC
import Derived.Test.YtlfkeonopdhoeaaGrfD
import Derived.Test.YtlfkeonopdhoeaaGrfE
namespace Go.Proofs.Ytlfkeonopdhoeaa.Grf
open Go.ChangeShapes Go.WideShapes Go.ChangeAt Go.RowKit
set_option linter.unusedVariables false
theorem filt_hit {zs : List Pr} {f : Pr → Bool} {k : Nat} (hk : k < zs.length) (h : f (zs.getD k (0, 0)) = true) : (zs.take (k + 1)).filter f = (zs.take k).filter f ++ [zs.getD k (0, 0)] := by
  rw [take_snoc hk, List.filter_append]
  congr 1
  simp only [List.filter_cons, h, if_true, List.filter_nil]
theorem filt_miss {zs : List Pr} {f : Pr → Bool} {k : Nat} (hk : k < zs.length) (h : f (zs.getD k (0, 0)) = false) : (zs.take (k + 1)).filter f = (zs.take k).filter f := by
  rw [take_snoc hk, List.filter_append]
  simp only [List.filter_cons, h, Bool.false_eq_true, if_false, List.filter_nil, List.append_nil]
theorem getD_memG {zs : List Pr} {k : Nat} (hk : k < zs.length) : zs.getD k (0, 0) ∈ zs := by
  have : zs.getD k (0, 0) = zs[k] := by simp [List.getD, hk]
  rw [this]; exact List.getElem_mem _
theorem filt_len {zs : List Pr} {f : Pr → Bool} (k : Nat) : ((zs.take k).filter f).length ≤ k := by
  refine Nat.le_trans (List.length_filter_le _ _) ?_
  rw [List.length_take]; omega
theorem OwnG.stay {w w' : World} {base : Nat} {v : Value} {L : List Pr} {F : Nat → Prop} (h : OwnG w base v L) (hs : Rw.Stay F w w') (hF : ∀ k, F k → k < base) : OwnG w' base v L := by
  refine ⟨h.1, ?_⟩
  rcases h.2 with h0 | ⟨g, cap, cur, hv, hb, hg, r⟩
  · exact .inl h0
  · refine .inr ⟨g, cap, cur, hv, hb, ?_, r⟩
    exact (hs.block g (Array.getElem?_eq_some_iff.1 hg).1 (fun e => by have := hF g e; omega)).trans hg
theorem links_nil (w : World) : Calls Try.prog 24 #[.pointer none] w (LPost [] w) := by
  have CN := Lib.hid (n_nil w)
  have CF := Lib.hid (full_any 0 (by unfold inI; omega) w)
  rw [show fullZ 0 = [] from rfl] at CF
  go_enter Try.func24, Try.ntmps24
  go_wp2_with fail
  refine (CN.out).mono ?_; rintro e w' ⟨rfl, rfl⟩
  go_wp2_with fail
  refine (CF.out).mono ?_; rintro e w1 ⟨ad, cap, rfl, hown, hB⟩
  have HB := Lib.hid hB
  clear hown hB
  simp only [List.length_nil]
  go_wp2_with fail
  go_loopw [3, 10] (fun v i wr => v = .slice none 0 0 ∧ i = .int .i64 0 ∧ Hid (Below w.heap.size w wr)) (fun _ i _ => 0)
  case atStart => exact ⟨rfl, rfl, HB⟩
  case round =>
    obtain ⟨rfl, rfl, hB⟩ := hrel
    go_wp2_with fail
    go_ret
    exact ⟨none, 0, rfl, OwnG.nil _ _, hB.out⟩
set_option maxHeartbeats 4000000 in
theorem links_any (g b n : Nat) (L : List Pr) (w : World) (h : GR w g b n L) :
    Calls Try.prog 24 #[.pointer (some ⟨g, 0, none⟩)] w (LPost (linksL n L) w) := by
  have hn := h.le
  have CN := Lib.hid (n_any g b n L w h)
  have CF := Lib.hid (full_any (n : Int) (by unfold inI; omega) w)
  rw [show fullZ (n : Int) = full n by unfold fullZ; rw [if_neg (by omega), Int.toNat_natCast]] at CF
  have HZ := Lib.hid (full_filter n L)
  have HR := Lib.hid (fun p (hp : p ∈ full n) => show inI p.1 ∧ inI p.2 by
    obtain ⟨x, y, h1, h2, h3, _, rfl⟩ := mem_allU.1 hp
    unfold inI
    simp only
    omega)
  have HLEN := Lib.hid (show (full n).length ≤ 4096 from allU_len64 yes hn)
  have HG := Lib.hid h
  clear h
  rw [← HZ.out]
  generalize full n = zs at *
  go_enter Try.func24, Try.ntmps24
  go_wp2_with fail
  refine (CN.out).mono ?_; rintro e w' ⟨rfl, rfl⟩
  go_wp2_with fail
  refine (CF.out).mono ?_; rintro e w1 ⟨ad, cap, rfl, hown, hB⟩
  have HF := Lib.hid hown.rd.1
  have HB1 := Lib.hid hB
  have HG1 := Lib.hid (HG.out.below hB)
  clear hown hB
  have hlen := HLEN.out
  obtain ⟨len, hl⟩ : ∃ len, Hid (zs.length = len) := ⟨_, Lib.hid rfl⟩
  rw [hl.out] at hlen
  rw [hl.out]
  go_wp2_with fail
  go_loopw [3, 10] (fun v i wr => ∃ k : Nat, k ≤ len ∧ i = .int .i64 k ∧ OwnG wr w1.heap.size v ((zs.take k).filter fun p => lk L p.1 p.2) ∧ Below w1.heap.size w1 wr) (fun _ i _ => len - (intOf i).toNat)
  case atStart => exact ⟨0, Nat.zero_le _, rfl, OwnG.nil _ _, Below.refl _ _⟩
  case round =>
    obtain ⟨k, hk, rfl, hown, hB⟩ := hrel
    by_cases hlt : k < len
    · obtain ⟨bz, off, rfl, hbz, c0, c1⟩ := rd_at (HF.out.below hB) (i := k) (by rw [hl.out]; exact hlt)
      have hin := HR.out _ (getD_memG (zs := zs) (k := k) (by rw [hl.out]; exact hlt))
      have HTS := Lib.hid (filt_hit (zs := zs) (f := fun p => lk L p.1 p.2) (k := k) (by rw [hl.out]; exact hlt))
      have HTM := Lib.hid (filt_miss (zs := zs) (f := fun p => lk L p.1 p.2) (k := k) (by rw [hl.out]; exact hlt))
      have hfl := filt_len (zs := zs) (f := fun p => lk L p.1 p.2) k
      generalize zs.getD k (0, 0) = p at *
      obtain ⟨x, y⟩ := p
      simp only at c0 c1 HTS HTM hin
      obtain ⟨W2, hW2⟩ : ∃ W2, Hid (W2 = wr.alloc (.cells #[.int .i64 x, .int .i64 y] 35)) := ⟨_, Lib.hid rfl⟩
      have HB2 : Hid (Below wr.heap.size wr W2) := Lib.hid (by rw [hW2.out]; exact (Below.refl _ _).alloc (Nat.le_refl _) _)
      have HC2 : Hid (∀ W, Below W2.heap.size W2 W → W.cell? ⟨wr.heap.size, 0, none⟩ = some (.int .i64 x) ∧ W.cell? ⟨wr.heap.size, 1, none⟩ = some (.int .i64 y)) := Lib.hid (by rw [hW2.out]; exact fun W h => two_cells wr W x y _ h)
      have CK := Lib.hid (linked_any g b n L x y hin.1 hin.2 W2 ((HG1.out.below hB).below HB2.out))
      have HB3 := Lib.hid (fun W (hW : Below W2.heap.size W2 W) => HB2.out.trans (hW.mono HB2.out.size))
      have HO3 := Lib.hid (fun W (hW : Below W2.heap.size W2 W) => hown.below (HB3.out W hW))
      have HB1k := Lib.hid (fun W (hW : Below W2.heap.size W2 W) => hB.trans ((HB3.out W hW).mono hB.size))
      clear hown hin HR
      cases hr : lk L x y with
      | false =>
        rw [hr] at CK
        have HX := Lib.hid (HTM.out hr)
        clear HTS HTM hr
        go_upto_region 5 with fail
        rw [← hW2.out]
        obtain ⟨d0, d1⟩ := HC2.out W2 (Below.refl _ _)
        clear c0 c1
        go_wp2_with fail
        refine (CK.out).mono ?_; rintro e w3 ⟨rfl, hB3⟩
        have HO := Lib.hid (HO3.out w3 hB3)
        have HBk := Lib.hid (HB1k.out w3 hB3)
        clear hB3 CK d0 d1 HO3 HB1k HB3
        go_wp2_with fail
        go_roundw
        case rel => exact ⟨k + 1, by omega, by go_num, by rw [HX.out]; exact HO.out, HBk.out⟩
        case measure => simp [intOf]; omega
      | true =>
        rw [hr] at CK
        have HX := Lib.hid (HTS.out hr)
        clear HTS HTM hr
        go_upto_region 5 with fail
        rw [← hW2.out]
        obtain ⟨d0, d1⟩ := HC2.out W2 (Below.refl _ _)
        clear c0 c1
        go_wp2_with fail
        refine (CK.out).mono ?_; rintro e w3 ⟨rfl, hB3⟩
        have hown3 := HO3.out w3 hB3
        have hB1k := HB1k.out w3 hB3
        obtain ⟨e0, e1⟩ := HC2.out w3 hB3
        have hsz := hB1k.size
        clear hB3 CK d0 d1 HO3 HB1k HB3
        go_wp2_with (at_builtin; refine app_one rfl _ _ rfl w1.heap.size _ _ rfl hown3 x y rfl (by omega) hsz ?_; intro v' w4 hown' hB4 _)
        go_roundw
        case rel => exact ⟨k + 1, by omega, by go_num, by rw [HX.out]; exact hown', hB1k.trans hB4⟩
        case measure => simp [intOf]; omega
    · obtain rfl : k = len := by omega
      have hT : (zs.take k).filter (fun p => lk L p.1 p.2) = zs.filter (fun p => lk L p.1 p.2) := by rw [List.take_of_length_le (by rw [hl.out]; exact Nat.le_refl _)]
      rw [hT] at hown
      obtain ⟨ad', cap', rfl⟩ := hown.shape
      have hP : LPost (zs.filter fun p => lk L p.1 p.2) w (.returned (.slice ad' (zs.filter fun p => lk L p.1 p.2).length cap')) wr := ⟨ad', cap', rfl, Rw.OwnS.mono hown HB1.out.size, HB1.out.trans (hB.mono HB1.out.size)⟩
      have HP := Lib.hid hP
      clear hP hown hB
      go_wp2_with fail
      go_ret
      exact HP.out
end Go.Proofs.Ytlfkeonopdhoeaa.Grf
