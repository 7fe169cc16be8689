/- A head is read (layer 9): get, Get. -/
import Derived.Test.YtanfnhgaooafeaaGreatDoorHedL
import Derived.Deep.RegionWith
import Derived.Deep.Cut
namespace Go.Proofs.YtanfnhgaooafeaaGreatDoor.Hed
open Go.ChangeShapes Go.WideShapes Go.ChangeAt Go.RowKit Go.Deep
open Go.Proofs.YtanfnhgaooafeaaGreatDoor.Byt Go.Proofs.YtanfnhgaooafeaaGreatDoor.Key Go.Proofs.YtanfnhgaooafeaaGreatDoor.Buf Go.Proofs.YtanfnhgaooafeaaGreatDoor.BufM
set_option linter.unusedVariables false
set_option linter.unusedSimpArgs false
/-- The cells of a packet with a head alone. -/
abbrev hcs (k t f q h : Int) : Array Value := #[.int .i64 k, .int .i64 t, .int .i64 f, .int .u32 q, .int .i64 h, .int .i64 0, .int .i64 0, .int .i64 0, .int .i64 0, .int .i64 0, .int .i64 0, .slice none 0 0]
theorem hcs_one (k t f q h : Int) : (hcs k t f q h).all (·.oneCell') = true := by simp [Value.oneCell']
theorem hcs_val (k h t f q : Nat) : pval (hpk k h t f q) = .agg (hcs k t f q h) := rfl
theorem GS.load {w W : World} {g bp : Nat} {s : St} {k t f q h : Int} (hg : GS w g bp (hcs k t f q h) s W) :
    W.cell? ⟨bp, 0, none⟩ = some (.int .i64 k) ∧ W.cell? ⟨bp, 1, none⟩ = some (.int .i64 t) ∧ W.cell? ⟨bp, 2, none⟩ = some (.int .i64 f) ∧ W.cell? ⟨bp, 3, none⟩ = some (.int .u32 q) ∧ W.cell? ⟨bp, 4, none⟩ = some (.int .i64 h) ∧
    W.frozen? ⟨bp, 0, none⟩ = false ∧ W.frozen? ⟨bp, 1, none⟩ = false ∧ W.frozen? ⟨bp, 2, none⟩ = false ∧ W.frozen? ⟨bp, 3, none⟩ = false ∧ W.frozen? ⟨bp, 4, none⟩ = false :=
  ⟨hg.box.cell 0, hg.box.cell 1, hg.box.cell 2, hg.box.cell 3, hg.box.cell 4, hg.box.free 0, hg.box.free 1, hg.box.free 2, hg.box.free 3, hg.box.free 4⟩
theorem GS.all {w W : World} {g bp : Nat} {s : St} {k t f q h : Int} (hg : GS w g bp (hcs k t f q h) s W) :
    (W.cell? ⟨bp, 0, none⟩ = some (.int .i64 k) ∧ W.cell? ⟨bp, 1, none⟩ = some (.int .i64 t) ∧ W.cell? ⟨bp, 2, none⟩ = some (.int .i64 f) ∧ W.cell? ⟨bp, 3, none⟩ = some (.int .u32 q) ∧ W.cell? ⟨bp, 4, none⟩ = some (.int .i64 h) ∧ W.cell? ⟨bp, 5, none⟩ = some (.int .i64 0) ∧
      W.cell? ⟨bp, 6, none⟩ = some (.int .i64 0) ∧ W.cell? ⟨bp, 7, none⟩ = some (.int .i64 0) ∧ W.cell? ⟨bp, 8, none⟩ = some (.int .i64 0) ∧ W.cell? ⟨bp, 9, none⟩ = some (.int .i64 0) ∧ W.cell? ⟨bp, 10, none⟩ = some (.int .i64 0) ∧ W.cell? ⟨bp, 11, none⟩ = some (.slice none 0 0)) ∧
    W.frozen? ⟨bp, 0, none⟩ = false ∧ W.frozen? ⟨bp, 1, none⟩ = false ∧ W.frozen? ⟨bp, 2, none⟩ = false ∧ W.frozen? ⟨bp, 3, none⟩ = false ∧ W.frozen? ⟨bp, 4, none⟩ = false ∧ W.frozen? ⟨bp, 5, none⟩ = false ∧ W.frozen? ⟨bp, 6, none⟩ = false ∧ W.frozen? ⟨bp, 7, none⟩ = false ∧ W.frozen? ⟨bp, 8, none⟩ = false ∧ W.frozen? ⟨bp, 9, none⟩ = false ∧ W.frozen? ⟨bp, 10, none⟩ = false ∧ W.frozen? ⟨bp, 11, none⟩ = false :=
  ⟨⟨hg.box.cell 0, hg.box.cell 1, hg.box.cell 2, hg.box.cell 3, hg.box.cell 4, hg.box.cell 5, hg.box.cell 6, hg.box.cell 7, hg.box.cell 8, hg.box.cell 9, hg.box.cell 10, hg.box.cell 11⟩, hg.box.free 0, hg.box.free 1, hg.box.free 2, hg.box.free 3, hg.box.free 4, hg.box.free 5, hg.box.free 6, hg.box.free 7, hg.box.free 8, hg.box.free 9, hg.box.free 10, hg.box.free 11⟩
theorem GS.same {w W : World} {g bp : Nat} {cs : Array Value} {s : St} (h : GS w g bp cs s W) (i : Nat) (u : Value) (hi : cs[i]? = some u) : GS w g bp cs s (W.setCell ⟨bp, i, none⟩ u) := by
  have h2 := h.put i u
  have e : cs.setIfInBounds i u = cs := by
    apply Array.ext_getElem?
    intro j
    rw [Array.getElem?_setIfInBounds]
    split
    · subst ‹i = j›
      split
      · exact hi.symm
      · rw [Array.getElem?_eq_none (by omega)]
    · rfl
  rwa [e] at h2
/-- All twelve cells stored anew. -/
theorem GS.put12 {w W : World} {g bp : Nat} {s : St} {k t f q h : Int} (hg : GS w g bp (hcs k t f q h) s W) :
    GS w g bp (hcs k t f q h) s ((((((((((((W.setCell ⟨bp, 0, none⟩ (.int .i64 k)).setCell ⟨bp, 1, none⟩ (.int .i64 t)).setCell ⟨bp, 2, none⟩ (.int .i64 f)).setCell ⟨bp, 3, none⟩ (.int .u32 q)).setCell ⟨bp, 4, none⟩ (.int .i64 h)).setCell ⟨bp, 5, none⟩ (.int .i64 0)).setCell ⟨bp, 6, none⟩ (.int .i64 0)).setCell ⟨bp, 7, none⟩ (.int .i64 0)).setCell ⟨bp, 8, none⟩ (.int .i64 0)).setCell ⟨bp, 9, none⟩ (.int .i64 0)).setCell ⟨bp, 10, none⟩ (.int .i64 0)).setCell ⟨bp, 11, none⟩ (.slice none 0 0)) :=
  (((((((((((hg.same 0 _ rfl).same 1 _ rfl).same 2 _ rfl).same 3 _ rfl).same 4 _ rfl).same 5 _ rfl).same 6 _ rfl).same 7 _ rfl).same 8 _ rfl).same 9 _ rfl).same 10 _ rfl).same 11 _ rfl
set_option maxRecDepth 100000 in
set_option maxHeartbeats 4000000 in
theorem get_any (g : Nat) (s : St) (w : World) (h : RR w g s) :
    Calls Tryz.prog 85 #[.pointer (some ⟨g, 0, none⟩)] w (RPost w g (gt s).2.2 (.tuple #[pval (gt s).1, .int .i64 (gt s).2.1])) := by
  have H0 := Lib.hid (GS.start h (hcs 0 0 0 0 0))
  generalize hbp : w.heap.size = bp at *
  have CB : Hid (∀ W s' k t f q h', GS w g bp (hcs k t f q h') s' W → Calls Tryz.prog 98 #[.pointer (some ⟨g, 0, none⟩)] W fun e w' => e = .returned (.int .u8 (((getF s'.2 1).1 : Nat) : Int)) ∧ Hid (GS w g bp (hcs k t f q h') (fixS s' 1) w')) := Lib.hid (fun W s' k t f q h' hg => (rbyte_any g s' W hg.rr).mono fun e w' hh => hg.next hh)
  have CN : Hid (∀ W s' k t f q h', GS w g bp (hcs k t f q h') s' W → Calls Tryz.prog 75 #[.pointer (some ⟨g, 0, none⟩)] W fun e w' => e = .returned (.int .u64 (((getN s'.2).1 : Nat) : Int)) ∧ Hid (GS w g bp (hcs k t f q h') (numS s') w')) := Lib.hid (fun W s' k t f q h' hg => (rnum_any g s' W hg.rr).mono fun e w' hh => hg.next hh)
  have C4 : Hid (∀ W s' k t f q h', GS w g bp (hcs k t f q h') s' W → Calls Tryz.prog 93 #[.pointer (some ⟨g, 0, none⟩), .int .i64 4] W fun e w' => e = .returned (.int .u64 (((getF s'.2 4).1 : Nat) : Int)) ∧ Hid (GS w g bp (hcs k t f q h') (fixS s' 4) w')) := Lib.hid (fun W s' k t f q h' hg => (rfixed_any g s' 4 W hg.rr).mono fun e w' hh => hg.next hh)
  have CFd : Hid (∀ W s' cs b wr, GS w g bp cs s' W → Calls Tryz.prog 99 #[.pointer (some ⟨g, 0, none⟩), .bool b, .int .i64 wr] W fun e w' => e = .returned (.int .i64 (fnd s' b wr)) ∧ W = w') := Lib.hid (fun W s' cs b wr hg => found_any g s' b wr W hg.rr)
  have CEr : Hid (∀ W s' cs, GS w g bp cs s' W → Calls Tryz.prog 69 #[.pointer (some ⟨g, 0, none⟩)] W fun e w' => e = .returned (.int .i64 s'.1) ∧ W = w') := Lib.hid (fun W s' cs hg => Buf.err_any g s' W hg.rr)
  have CK : Hid (∀ (k : Nat) W, Calls Tryz.prog 90 #[.int .i64 (k : Int)] W fun e w' => e = .returned (.bool (isKb k)) ∧ W = w') := Lib.hid (fun k W => iskind_any (k : Int) W)
  have CF := Lib.hid (fun (k : Nat) W => flood_any (k : Int) W)
  have CH := Lib.hid (fun (k : Nat) W => ishops_any (k : Int) W)
  have HC : Hid (∀ W s' k t f q h', GS w g bp (hcs k t f q h') s' W → _ ∧ _) := Lib.hid (fun W s' k t f q h' hg => hg.load)
  have HE : Hid (∀ W s' (k h t f q : Nat) e, GS w g bp (hcs k t f q h) s' W → ∀ R, R = (hpk k h t f q, e, s') → RPost w g R.2.2 (.tuple #[pval R.1, .int .i64 R.2.1]) (.returned (.tuple #[.agg (hcs k t f q h), .int .i64 e])) W) := Lib.hid (fun W s' k h t f q e hg R hR => by subst hR; exact ⟨rfl, hg.rr, hg.step⟩)
  obtain ⟨W0, hW0⟩ : ∃ W0, Hid (w.alloc (.cells (hcs 0 0 0 0 0) 27) = W0) := ⟨_, Lib.hid rfl⟩
  rw [hW0.out] at H0
  have C1 := Lib.hid (CB.out _ _ _ _ _ _ _ H0.out)
  have hk := getF_byte s.2
  have HR := Lib.hid (show gt1 (getF s.2 1).1 (fixS s 1) = gt s from rfl)
  generalize gt s = R at *
  generalize (getF s.2 1).1 = k at *
  generalize fixS s 1 = s1 at *
  clear h
  go_enter Tryz.func85, Tryz.ntmps85
  go_upto_region 1 with fail
  rw [hW0.out]
  try rw [hbp]
  go_wp2_with fail
  refine (C1.out).mono ?_; rintro e w1 ⟨rfl, H1⟩
  obtain ⟨c0, c1, c2, c3, c4, f0, f1, f2, f3, f4⟩ := HC.out _ _ _ _ _ _ _ H1.out
  have H2 := Lib.hid (H1.out.put 0 (.int .i64 (k : Int)))
  clear H0 C1
  have H2 : Hid (GS w g bp (hcs k 0 0 0 0) s1 (w1.setCell ⟨bp, 0, none⟩ (.int .i64 (k : Int)))) := Lib.hid (H1.out.put 0 (.int .i64 (k : Int)))
  clear H1
  go_upto_region 2 with fail
  generalize w1.setCell ⟨bp, 0, none⟩ (.int .i64 (k : Int)) = W2 at *
  clear c0 c1 c2 c3 c4 f0 f1 f2 f3 f4
  obtain ⟨c0, c1, c2, c3, c4, f0, f1, f2, f3, f4⟩ := HC.out _ _ _ _ _ _ _ H2.out
  have P1 := Lib.hid (fun e he => gt1_parts k s1 R HR.out e he)
  clear HR
  go_wp2_with fail
  refine (CK.out k _).mono ?_; rintro e w' ⟨rfl, rfl⟩
  go_wp2_with fail
  refine (CFd.out _ _ _ _ _ H2.out).mono ?_; rintro e w' ⟨rfl, rfl⟩
  obtain ⟨e1, he1⟩ : ∃ e1, Hid (fnd s1 (isKb k) 7 = e1) := ⟨_, Lib.hid rfl⟩
  rw [he1.out]
  have P1 := Lib.hid (P1.out e1 he1.out)
  clear he1
  by_cases hz1 : e1 = 0
  case neg =>
    have hne : (e1 != 0) = true := by simpa using hz1
    have hR := P1.out.2 (fun h => hz1 h.1)
    clear hz1 P1
    have bX := Lib.hid H2.out.box
    have oX := Lib.hid (hcs_one k 0 0 0 0)
    have HX := Lib.hid (H2.out.row (hcs k 0 0 0 0) rfl)
    clear HC CB CN C4 CFd CEr
    go_wp2_with (first
      | (refine wpList_load_row rfl 27 _ rfl _ rfl _ (hcs k 0 0 0 0) _ _ bX.out Tryz.underlying27 rfl infoPk ?_)
      | (refine wpList_store_row rfl 27 _ _ rfl _ (hcs k 0 0 0 0) rfl rfl _ _ bX.out infoPk rfl oX.out ?_))
    exact bodyPost_ret (results_pk rfl _ _ bp (hcs k 0 0 0 0) (.int .i64 e1) rfl rfl HX.out.box rfl) rfl (HE.out _ _ k 0 0 0 0 _ HX.out _ hR)
  case pos =>
    subst hz1
    have CF := Lib.hid (CF.out k W2)
    obtain ⟨fl, hfl⟩ : ∃ fl, Hid (flo (k : Int) = fl) := ⟨_, Lib.hid rfl⟩
    rw [hfl.out] at CF P1
    go_wp2_with fail
    refine (CF.out).mono ?_; rintro e w' ⟨rfl, rfl⟩
    cases fl with
    | false =>
      have hR := P1.out.2 (by simp)
      clear P1 hfl
      have bX := Lib.hid H2.out.box
      have oX := Lib.hid (hcs_one k 0 0 0 0)
      have HX := Lib.hid (H2.out.row (hcs k 0 0 0 0) rfl)
      clear HC CB CN C4 CFd CEr
      go_wp2_with (first
        | (refine wpList_load_row rfl 27 _ rfl _ rfl _ (hcs k 0 0 0 0) _ _ bX.out Tryz.underlying27 rfl infoPk ?_)
        | (refine wpList_store_row rfl 27 _ _ rfl _ (hcs k 0 0 0 0) rfl rfl _ _ bX.out infoPk rfl oX.out ?_))
      exact bodyPost_ret (results_pk rfl _ _ bp (hcs k 0 0 0 0) (.int .i64 0) rfl rfl HX.out.box rfl) rfl (HE.out _ _ k 0 0 0 0 _ HX.out _ hR)
    | true =>
      have HR := Lib.hid (P1.out.1 (by simp))
      clear P1 hfl CF CK
      have hh := getF_byte s1.2
      have C1 := Lib.hid (CB.out _ _ _ _ _ _ _ H2.out)
      generalize (getF s1.2 1).1 = h at *
      generalize fixS s1 1 = s2 at *
      clear c0 c1 c2 c3 c4 f0 f1 f2 f3 f4
      go_upto_region 6 with (refine (C1.out).mono ?_; rintro e w3 ⟨rfl, H3⟩; obtain ⟨c0, c1, c2, c3, c4, f0, f1, f2, f3, f4⟩ := HC.out _ _ _ _ _ _ _ H3.out)
      have H4 : Hid (GS w g bp (hcs k 0 0 0 h) s2 (w3.setCell ⟨bp, 4, none⟩ (.int .i64 (h : Int)))) := Lib.hid (H3.out.put 4 (.int .i64 (h : Int)))
      clear H3
      generalize w3.setCell ⟨bp, 4, none⟩ (.int .i64 (h : Int)) = W4 at *
      clear c0 c1 c2 c3 c4 f0 f1 f2 f3 f4 C1 H2
      obtain ⟨c0, c1, c2, c3, c4, f0, f1, f2, f3, f4⟩ := HC.out _ _ _ _ _ _ _ H4.out
      have P2 := Lib.hid (fun e he => gt2_parts k h s2 R HR.out e he)
      clear HR
      go_wp2_with fail
      refine (CH.out h _).mono ?_; rintro e w' ⟨rfl, rfl⟩
      go_wp2_with fail
      refine (CFd.out _ _ _ _ _ H4.out).mono ?_; rintro e w' ⟨rfl, rfl⟩
      obtain ⟨e2, he2⟩ : ∃ e2, Hid (fnd s2 (okHops (h : Int)) 9 = e2) := ⟨_, Lib.hid rfl⟩
      rw [he2.out]
      have P2 := Lib.hid (P2.out e2 he2.out)
      clear he2
      by_cases hz2 : e2 = 0
      case neg =>
        have hne : (e2 != 0) = true := by simpa using hz2
        have hR := P2.out.2 hz2
        clear hz2 P2
        have bX := Lib.hid H4.out.box
        have oX := Lib.hid (hcs_one k 0 0 0 h)
        have HX := Lib.hid (H4.out.row (hcs k 0 0 0 h) rfl)
        clear HC CB CN C4 CFd CEr
        go_wp2_with (first
          | (refine wpList_load_row rfl 27 _ rfl _ rfl _ (hcs k 0 0 0 h) _ _ bX.out Tryz.underlying27 rfl infoPk ?_)
          | (refine wpList_store_row rfl 27 _ _ rfl _ (hcs k 0 0 0 h) rfl rfl _ _ bX.out infoPk rfl oX.out ?_))
        exact bodyPost_ret (results_pk rfl _ _ bp (hcs k 0 0 0 h) (.int .i64 e2) rfl rfl HX.out.box rfl) rfl (HE.out _ _ k h 0 0 0 _ HX.out _ hR)
      case pos =>
        subst hz2
        have HR := Lib.hid (P2.out.1 (by simp))
        clear P2 CH
        have ht := getN_lt s2.2
        have C1 := Lib.hid (CN.out _ _ _ _ _ _ _ H4.out)
        generalize (getN s2.2).1 = t at *
        generalize numS s2 = s3 at *
        clear c0 c1 c2 c3 c4 f0 f1 f2 f3 f4
        go_wp2_with fail
        refine (C1.out).mono ?_; rintro e w5 ⟨rfl, H5⟩
        have P3 := Lib.hid (fun e he => gt3_parts k h t s3 R HR.out e he)
        clear HR C1 H4
        obtain ⟨c0, c1, c2, c3, c4, f0, f1, f2, f3, f4⟩ := HC.out _ _ _ _ _ _ _ H5.out
        go_wp2_with fail
        refine (CFd.out _ _ _ _ _ H5.out).mono ?_; rintro e w' ⟨rfl, rfl⟩
        obtain ⟨e3, he3⟩ : ∃ e3, Hid (fnd s3 (decide ((t : Int) ≤ 1152921504606846976)) 2 = e3) := ⟨_, Lib.hid rfl⟩
        rw [he3.out]
        have P3 := Lib.hid (P3.out e3 he3.out)
        clear he3
        by_cases hz3 : e3 = 0
        case neg =>
          have hne : (e3 != 0) = true := by simpa using hz3
          have hR := P3.out.2 hz3
          clear hz3 P3
          have bX := Lib.hid H5.out.box
          have oX := Lib.hid (hcs_one k 0 0 0 h)
          have HX := Lib.hid (H5.out.row (hcs k 0 0 0 h) rfl)
          clear HC CB CN C4 CFd CEr
          go_wp2_with (first
            | (refine wpList_load_row rfl 27 _ rfl _ rfl _ (hcs k 0 0 0 h) _ _ bX.out Tryz.underlying27 rfl infoPk ?_)
            | (refine wpList_store_row rfl 27 _ _ rfl _ (hcs k 0 0 0 h) rfl rfl _ _ bX.out infoPk rfl oX.out ?_))
          exact bodyPost_ret (results_pk rfl _ _ bp (hcs k 0 0 0 h) (.int .i64 e3) rfl rfl HX.out.box rfl) rfl (HE.out _ _ k h 0 0 0 _ HX.out _ hR)
        case pos =>
          subst hz3
          obtain ⟨hR3, ht6⟩ := P3.out.1 (by simp)
          have HR := Lib.hid hR3
          clear P3 hR3
          have h3 : IntKind.i64.wrap (t : Int) = (t : Int) := by rw [IntKind.wrap_i64]; omega
          have CT : Hid (∀ (f : Nat) W, Calls Tryz.prog 89 #[.agg #[.int .i64 (t : Int), .int .i64 (f : Int), .int .u32 0]] W fun e w' => e = .returned (.bool (goodK ((t : Nat), (f : Nat), 0))) ∧ Below W.heap.size W w') := Lib.hid (fun f W => Key.good_any ((t : Nat), (f : Nat), 0) W)
          go_upto_region 14 with fail
          have H6 : Hid (GS w g bp (hcs k t 0 0 h) s3 (w5.setCell ⟨bp, 1, none⟩ (.int .i64 (t : Int)))) := Lib.hid (H5.out.put 1 (.int .i64 (t : Int)))
          clear H5
          generalize w5.setCell ⟨bp, 1, none⟩ (.int .i64 (t : Int)) = W6 at *
          clear c0 c1 c2 c3 c4 f0 f1 f2 f3 f4
          have hf := getF_byte s3.2
          have C1 := Lib.hid (CB.out _ _ _ _ _ _ _ H6.out)
          generalize (getF s3.2 1).1 = f at *
          generalize fixS s3 1 = s4 at *
          go_upto_region 15 with (refine (C1.out).mono ?_; rintro e w7 ⟨rfl, H7⟩; obtain ⟨c0, c1, c2, c3, c4, f0, f1, f2, f3, f4⟩ := HC.out _ _ _ _ _ _ _ H7.out)
          have H8 : Hid (GS w g bp (hcs k t f 0 h) s4 (w7.setCell ⟨bp, 2, none⟩ (.int .i64 (f : Int)))) := Lib.hid (H7.out.put 2 (.int .i64 (f : Int)))
          clear H7
          generalize w7.setCell ⟨bp, 2, none⟩ (.int .i64 (f : Int)) = W8 at *
          clear c0 c1 c2 c3 c4 f0 f1 f2 f3 f4 C1 H6
          obtain ⟨c0, c1, c2, c3, c4, f0, f1, f2, f3, f4⟩ := HC.out _ _ _ _ _ _ _ H8.out
          have P4 := Lib.hid (fun e he => gt4_parts k h t f s4 R HR.out e he)
          clear HR
          go_wp2_with fail
          refine (CT.out f _).mono ?_; rintro e w9 ⟨rfl, hB9⟩
          have H9 := Lib.hid (H8.out.kept hB9)
          clear hB9 H8 c0 c1 c2 c3 c4 f0 f1 f2 f3 f4 CT
          obtain ⟨c0, c1, c2, c3, c4, f0, f1, f2, f3, f4⟩ := HC.out _ _ _ _ _ _ _ H9.out
          go_wp2_with fail
          refine (CFd.out _ _ _ _ _ H9.out).mono ?_; rintro e w' ⟨rfl, rfl⟩
          obtain ⟨e4, he4⟩ : ∃ e4, Hid (fnd s4 (goodK ((t : Nat), (f : Nat), 0)) 8 = e4) := ⟨_, Lib.hid rfl⟩
          rw [he4.out]
          have P4 := Lib.hid (P4.out e4 he4.out)
          clear he4
          by_cases hz4 : e4 = 0
          case neg =>
            have hne : (e4 != 0) = true := by simpa using hz4
            have hR := P4.out.2 hz4
            clear hz4 P4
            have bX := Lib.hid H9.out.box
            have oX := Lib.hid (hcs_one k t f 0 h)
            have HX := Lib.hid (H9.out.row (hcs k t f 0 h) rfl)
            clear HC CB CN C4 CFd CEr
            go_wp2_with (first
              | (refine wpList_load_row rfl 27 _ rfl _ rfl _ (hcs k t f 0 h) _ _ bX.out Tryz.underlying27 rfl infoPk ?_)
              | (refine wpList_store_row rfl 27 _ _ rfl _ (hcs k t f 0 h) rfl rfl _ _ bX.out infoPk rfl oX.out ?_))
            exact bodyPost_ret (results_pk rfl _ _ bp (hcs k t f 0 h) (.int .i64 e4) rfl rfl HX.out.box rfl) rfl (HE.out _ _ k h t f 0 _ HX.out _ hR)
          case pos =>
            subst hz4
            have HR := Lib.hid (P4.out.1 (by simp))
            clear P4
            have hq := getF_four s4.2
            have C1 := Lib.hid (C4.out _ _ _ _ _ _ _ H9.out)
            generalize (getF s4.2 4).1 = q at *
            generalize fixS s4 4 = s5 at *
            have h5 : IntKind.u32.wrap (q : Int) = (q : Int) := by rw [IntKind.wrap_u32]; omega
            clear c0 c1 c2 c3 c4 f0 f1 f2 f3 f4
            go_upto_region 19 with (refine (C1.out).mono ?_; rintro e w10 ⟨rfl, H10⟩; obtain ⟨c0, c1, c2, c3, c4, f0, f1, f2, f3, f4⟩ := HC.out _ _ _ _ _ _ _ H10.out)
            have H11 : Hid (GS w g bp (hcs k t f q h) s5 (w10.setCell ⟨bp, 3, none⟩ (.int .u32 (q : Int)))) := Lib.hid (H10.out.put 3 (.int .u32 (q : Int)))
            clear H10
            generalize w10.setCell ⟨bp, 3, none⟩ (.int .u32 (q : Int)) = W11 at *
            clear c0 c1 c2 c3 c4 f0 f1 f2 f3 f4 C1 H9
            have HD := Lib.hid (H11.out.kept (Below.refl _ _).drew)
            have H12 := Lib.hid (H11.out.put12.kept (Below.refl _ _).drew)
            have CEr := Lib.hid (CEr.out _ _ _ HD.out)
            obtain ⟨⟨c0, c1, c2, c3, c4, c5, c6, c7, c8, c9, c10, c11⟩, f0, f1, f2, f3, f4, f5, f6, f7, f8, f9, f10, f11⟩ := H11.out.all
            clear HC CB CN C4 CFd
            refine wp_region_noPanic ?_
            go_region_with (go_at_call 69; refine (CEr.out).mono ?_; rintro e w' ⟨rfl, rfl⟩)
            all_goals
              refine NoPanic.normal ?_
              simp only [Act.put, List.getElem_toArray, List.getElem_cons_succ, List.getElem_cons_zero, List.setIfInBounds_toArray, List.set_cons_zero, List.set_cons_succ]
              go_wp2_with fail
              exact bodyPost_ret (results_pk rfl _ _ bp (hcs k t f q h) (.int .i64 s5.1) rfl rfl H12.out.box rfl) rfl (HE.out _ _ k h t f q _ H12.out _ HR.out)
end Go.Proofs.YtanfnhgaooafeaaGreatDoor.Hed
