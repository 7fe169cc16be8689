/- AttM AttP AttG AttR AttN, laid into one. -/
import Derived.Test.YtanfnhgaooafeaaGreatDoorPktA
import Derived.Test.YtanfnhgaooafeaaGreatDoorHedX
import Derived.Test.YtanfnhgaooafeaaGreatDoorBufX
/-! AttM -/
namespace Go.Proofs.YtanfnhgaooafeaaGreatDoor.Att
open Go.ChangeShapes Go.WideShapes Go.ChangeAt Go.RowKit Go.Deep
open Go.Proofs.YtanfnhgaooafeaaGreatDoor.Byt Go.Proofs.YtanfnhgaooafeaaGreatDoor.Key Go.Proofs.YtanfnhgaooafeaaGreatDoor.Buf Go.Proofs.YtanfnhgaooafeaaGreatDoor.Hed Go.Proofs.YtanfnhgaooafeaaGreatDoor.Dat Go.Proofs.YtanfnhgaooafeaaGreatDoor.BufM Go.Proofs.YtanfnhgaooafeaaGreatDoor.Pkt
set_option linter.unusedVariables false
set_option linter.unusedSimpArgs false
/-- An attendance. -/
def attP (k : Ky) (h n : Int) : Pk := ⟨5, k, h, n, 0, 0, 0, 0, 0, none, 0, []⟩
/-- May the packet be one? -/
def attG (p : Pk) : Bool := gd p && (noOk p.no && eqP p (attP p.key p.hops p.no))
theorem attG_iff (p : Pk) : attG p = true ↔ p.kind = 5 ∧ gd p = true ∧ (0 ≤ p.no ∧ p.no ≤ 1152921504606846976) ∧ p.to = 0 ∧ p.index = 0 ∧ p.total = 0 ∧ p.stamp = 0 ∧ p.value = 0 ∧ p.body = [] := by
  unfold attG
  simp only [Bool.and_eq_true, noOk_iff, eqP_iff]
  unfold attP
  simp only
  constructor
  · rintro ⟨h1, h2, h3, -, -, -, h4⟩
    exact ⟨h3, h1, h2, h4⟩
  · rintro ⟨h3, h1, h2, h4⟩
    exact ⟨h1, h2, h3, trivial, trivial, trivial, h4⟩
/-- In the program's order. -/
theorem attG_a (p : Pk) : attG p = (gd p && (decide (0 ≤ p.no) && (decide (p.no ≤ 1152921504606846976) && eqP p (attP p.key p.hops p.no)))) := by
  unfold attG noOk
  rw [Bool.and_assoc]
/-- In the document's order. -/
theorem attG_b (p : Pk) : attG p = (eqP p (attP p.key p.hops p.no) && (gd p && (decide (0 ≤ p.no) && decide (p.no ≤ 1152921504606846976)))) := by
  rw [attG_a]
  cases gd p <;> cases decide (0 ≤ p.no) <;> cases decide (p.no ≤ 1152921504606846976) <;> cases eqP p (attP p.key p.hops p.no) <;> rfl
/-- A good packet is from a node. -/
theorem attG_from {p : Pk} (h : attG p = true) : 0 ≤ p.key.2.1 ∧ p.key.2.1 < 64 := by
  have h := (attG_iff p).1 h
  have hg := h.2.1
  rw [gd_flood (flo_yes (by omega))] at hg
  simp only [Bool.and_eq_true] at hg
  have := hg.2
  unfold goodK at this
  simp only [Bool.and_eq_true, decide_eq_true_eq] at this
  omega
end Go.Proofs.YtanfnhgaooafeaaGreatDoor.Att
/-! AttP -/
namespace Go.Proofs.YtanfnhgaooafeaaGreatDoor.Att
open Go.ChangeShapes Go.WideShapes Go.ChangeAt Go.RowKit Go.Deep
open Go.Proofs.YtanfnhgaooafeaaGreatDoor.Byt Go.Proofs.YtanfnhgaooafeaaGreatDoor.Key Go.Proofs.YtanfnhgaooafeaaGreatDoor.Buf Go.Proofs.YtanfnhgaooafeaaGreatDoor.Hed Go.Proofs.YtanfnhgaooafeaaGreatDoor.Dat Go.Proofs.YtanfnhgaooafeaaGreatDoor.BufM Go.Proofs.YtanfnhgaooafeaaGreatDoor.Pkt
set_option linter.unusedVariables false
set_option linter.unusedSimpArgs false
theorem anew_any (k : Ky) (x : Int) (w : World) :
    Calls Tryz.prog 74 #[kval k, .int .i64 x] w fun e w' => e = .returned (pval (attP k 1 x)) ∧ Below w.heap.size w w' := by
  have HB : Hid (∀ o o', Below w.heap.size w ((w.alloc o).alloc o')) := Lib.hid (fun o o' => ((Below.refl _ _).alloc (Nat.le_refl _) o).alloc (by simp) o')
  obtain ⟨t, f, s⟩ := k
  unfold kval pval Pk.cells attP
  simp only [List.length_nil]
  go_enter Tryz.func74, Tryz.ntmps74
  go_wp2_with fail
  go_returns
  exact ⟨rfl, HB.out _ _⟩
theorem ranew_any (k : Ky) (x : Int) (w : World) :
    Calls Tryz.prog 54 #[kval k, .int .i64 x] w fun e w' => e = .returned (pval (attP k 1 x)) ∧ Below w.heap.size w w' := by
  have HB : Hid (∀ o o', Below w.heap.size w ((w.alloc o).alloc o')) := Lib.hid (fun o o' => ((Below.refl _ _).alloc (Nat.le_refl _) o).alloc (by simp) o')
  obtain ⟨t, f, s⟩ := k
  unfold kval pval Pk.cells attP
  simp only [List.length_nil]
  go_enter Tryz.func54, Tryz.ntmps54
  go_wp2_with fail
  go_returns
  exact ⟨rfl, HB.out _ _⟩
set_option maxRecDepth 100000 in
set_option maxHeartbeats 2000000 in
theorem aput_any (p : Pk) (g B m : Nat) (s : Int × List UInt8) (row : Option Nat) (w : World) (h : WR w B g m s row) (hm : s.2.length ≤ 800000) :
    Calls Tryz.prog 38 #[.pointer (some ⟨g, 0, none⟩), pval p] w (WPost w B g m row (wNum m s (un p.no))) := by
  obtain ⟨wb, hwb⟩ : ∃ wb, Hid (wb = w.alloc (.cells p.cells 27)) := ⟨_, Lib.hid rfl⟩
  have h0 := PS.start h 27 p.cells
  rw [← hwb.out] at h0
  have C0 := Lib.hid (h0.num (by omega) p.no)
  have HC := Lib.hid (pk_cells w wb p hwb.out)
  have HE : Hid (∀ W row', PS w B g m w.heap.size row 27 p.cells (wNum m s (un p.no)) W row' → WPost w B g m row (wNum m s (un p.no)) (.returned (.tuple #[])) W) := Lib.hid (fun W row' h => h.post)
  generalize WPost w B g m row (wNum m s (un p.no)) = Fin at *
  generalize wNum m s (un p.no) = sF at *
  clear h0 h hm
  obtain ⟨kind, ⟨t, f, q⟩, hops, no, to, index, total, stamp, value, ad, cap, body⟩ := p
  unfold Pk.cells at hwb C0 HE
  unfold pval Pk.cells
  simp only at C0 HE hwb HC ⊢
  obtain ⟨n, hnn⟩ : ∃ n, body.length = n := ⟨_, rfl⟩
  simp only [hnn] at C0 HE hwb HC ⊢
  clear hnn
  go_enter Tryz.func38, Tryz.ntmps38
  go_upto_region 1 with fail
  rw [← hwb.out]
  obtain ⟨c0, c1, c2, c3, c4, c5, c6, c7, c8, c9, c10, c11⟩ := HC.out wb (Below.refl _ _)
  go_wp2_with fail
  refine (C0.out).mono ?_; rintro e x0 ⟨rfl, row0, H3⟩
  have hF := Lib.hid (HE.out _ _ H3.out)
  clear HE H3
  go_wp2_with fail
  go_returns
  exact hF.out
set_option maxRecDepth 100000 in
theorem abytes_any (p : Pk) (w : World) :
    Calls Tryz.prog 28 #[pval p] w (Gives (sev (un p.no)) w) := by
  obtain ⟨wb, hwb⟩ : ∃ wb, Hid (wb = w.alloc (.cells p.cells 27)) := ⟨_, Lib.hid rfl⟩
  have HB0 := Lib.hid (one_box w wb _ _ hwb.out).1
  have HC := Lib.hid (pk_cells w wb p hwb.out)
  have CB : Hid (Calls Tryz.prog 59 #[.int .u64 (IntKind.u64.wrap p.no)] wb fun e w' => ∃ ad cap, e = .returned (.slice ad (sev (un p.no)).length cap) ∧ Hid (Gives (sev (un p.no)) w (.returned (.slice ad (sev (un p.no)).length cap)) w')) := Lib.hid ((by rw [← un_val]; exact rNum_any _ (un_lt _) wb : Calls Tryz.prog 59 #[.int .u64 (IntKind.u64.wrap p.no)] wb (Gives (sev (un p.no)) wb)).mono fun e w' hq => by
    obtain ⟨ad, cap, rfl, ho, hB⟩ := hq
    exact ⟨ad, cap, rfl, Lib.hid ⟨ad, cap, rfl, Own.mono ho HB0.out.size, HB0.out.trans (hB.mono HB0.out.size)⟩⟩)
  generalize sev (un p.no) = out at *
  obtain ⟨kind, ⟨t, f, s⟩, hops, no, to, index, total, stamp, value, ad, cap, body⟩ := p
  unfold Pk.cells at hwb
  unfold pval Pk.cells
  simp only at CB hwb HC ⊢
  obtain ⟨n, hnn⟩ : ∃ n, body.length = n := ⟨_, rfl⟩
  simp only [hnn] at hwb HC ⊢
  clear hnn
  go_enter Tryz.func28, Tryz.ntmps28
  go_upto_region 1 with fail
  rw [← hwb.out]
  obtain ⟨c0, c1, c2, c3, c4, c5, c6, c7, c8, c9, c10, c11⟩ := HC.out wb (Below.refl _ _)
  go_wp2_with fail
  refine (CB.out).mono ?_; rintro e w' ⟨ad2, cap2, rfl, HP⟩
  go_wp2_with fail
  go_ret
  exact HP.out
end Go.Proofs.YtanfnhgaooafeaaGreatDoor.Att
/-! AttG -/
namespace Go.Proofs.YtanfnhgaooafeaaGreatDoor.Att
open Go.ChangeShapes Go.WideShapes Go.ChangeAt Go.RowKit Go.Deep
open Go.Proofs.YtanfnhgaooafeaaGreatDoor.Byt Go.Proofs.YtanfnhgaooafeaaGreatDoor.Key Go.Proofs.YtanfnhgaooafeaaGreatDoor.Buf Go.Proofs.YtanfnhgaooafeaaGreatDoor.Hed Go.Proofs.YtanfnhgaooafeaaGreatDoor.Dat Go.Proofs.YtanfnhgaooafeaaGreatDoor.BufM Go.Proofs.YtanfnhgaooafeaaGreatDoor.Pkt
set_option linter.unusedVariables false
set_option linter.unusedSimpArgs false
set_option maxRecDepth 100000 in
set_option maxHeartbeats 2000000 in
theorem aget_err (p : Pk) (g : Nat) (s : Int × List UInt8) (w : World) (h : RR w g s) (he : (numS s).1 ≠ 0) :
    Calls Tryz.prog 39 #[.pointer (some ⟨g, 0, none⟩), pval p] w (RPost w g (numS s) (.tuple #[pval zero, .int .i64 (numS s).1])) := by
  obtain ⟨W1, hW1⟩ : ∃ W1, Hid (W1 = (w.alloc (.cells p.cells 27)).alloc (.cells (Pk.cells zero) 27)) := ⟨_, Lib.hid rfl⟩
  have H1 := Lib.hid (G2.start h _ _ hW1.out)
  have CN : Hid (Calls Tryz.prog 75 #[.pointer (some ⟨g, 0, none⟩)] W1 fun e w' => e = .returned (.int .u64 (((getN s.2).1 : Nat) : Int)) ∧ Hid (G2 w g p.cells (Pk.cells zero) (numS s) w')) := Lib.hid ((rnum_any g s W1 H1.out.rr).mono fun e w' hp => H1.out.next hp)
  have CE : Hid (∀ W cs ds, G2 w g cs ds (numS s) W → Calls Tryz.prog 69 #[.pointer (some ⟨g, 0, none⟩)] W fun e w' => e = .returned (.int .i64 (numS s).1) ∧ W = w') := Lib.hid (fun W cs ds hG => err_any g (numS s) W hG.rr)
  have HP : Hid (∀ W cs ds, G2 w g cs ds (numS s) W → RPost w g (numS s) (.tuple #[pval zero, .int .i64 (numS s).1]) (.returned (.tuple #[pval zero, .int .i64 (numS s).1])) W) := Lib.hid (fun W cs ds hG => hG.rpost _)
  have HPO := Lib.hid zeroP_one
  generalize RPost w g (numS s) (.tuple #[pval zero, .int .i64 (numS s).1]) = Got at *
  obtain ⟨er, her⟩ : ∃ er, (numS s).1 = er := ⟨_, rfl⟩
  rw [her] at he CE HP
  have hne : (er != 0) = true := by simpa using he
  clear her he
  generalize numS s = sF at *
  generalize (((getN s.2).1 : Nat) : Int) = x at *
  obtain ⟨kind, ⟨t, f, q⟩, hops, no, to, index, total, stamp, value, ad0, cap0, body⟩ := p
  unfold Pk.cells zero at hW1 CN HPO
  unfold pval Pk.cells zero at HP
  unfold pval Pk.cells
  simp only [List.length_nil] at hW1 CN HP HPO ⊢
  obtain ⟨n, hn⟩ : ∃ n, body.length = n := ⟨_, rfl⟩
  simp only [hn] at hW1 CN ⊢
  clear hn h H1
  go_enter Tryz.func39, Tryz.ntmps39
  go_upto_region 1 with fail
  rw [← hW1.out]
  go_wp2_with fail
  refine (CN.out).mono ?_; rintro e w2 ⟨rfl, H2⟩
  clear CN hW1
  go_wp2_with fail
  refine (CE.out _ _ _ H2.out).mono ?_; rintro e w3 ⟨rfl, rfl⟩
  have b2 := Lib.hid H2.out.res
  have HG4 := Lib.hid (H2.out.row #[.int .i64 0, .int .i64 0, .int .i64 0, .int .u32 0, .int .i64 0, .int .i64 0, .int .i64 0, .int .i64 0, .int .i64 0, .int .i64 0, .int .i64 0, .slice none 0 0] rfl)
  have b4 := Lib.hid HG4.out.res
  clear CE H2
  go_wp2_with (refine wpList_store_row rfl 27 _ _ rfl _ #[.int .i64 0, .int .i64 0, .int .i64 0, .int .u32 0, .int .i64 0, .int .i64 0, .int .i64 0, .int .i64 0, .int .i64 0, .int .i64 0, .int .i64 0, .slice none 0 0] rfl rfl _ _ b2.out infoPk rfl HPO.out ?_)
  exact bodyPost_ret (results_pk2 rfl _ _ (w.heap.size + 1) _ (.int .i64 er) rfl rfl b4.out rfl) rfl (HP.out _ _ _ HG4.out)
set_option maxRecDepth 100000 in
set_option maxHeartbeats 2000000 in
theorem aget_range (p : Pk) (g : Nat) (s : Int × List UInt8) (w : World) (h : RR w g s) (he : (numS s).1 = 0) (hx : 1152921504606846976 < (getN s.2).1) :
    Calls Tryz.prog 39 #[.pointer (some ⟨g, 0, none⟩), pval p] w (RPost w g (numS s) (.tuple #[pval zero, .int .i64 2])) := by
  obtain ⟨W1, hW1⟩ : ∃ W1, Hid (W1 = (w.alloc (.cells p.cells 27)).alloc (.cells (Pk.cells zero) 27)) := ⟨_, Lib.hid rfl⟩
  have H1 := Lib.hid (G2.start h _ _ hW1.out)
  have CN : Hid (Calls Tryz.prog 75 #[.pointer (some ⟨g, 0, none⟩)] W1 fun e w' => e = .returned (.int .u64 (((getN s.2).1 : Nat) : Int)) ∧ Hid (G2 w g p.cells (Pk.cells zero) (numS s) w')) := Lib.hid ((rnum_any g s W1 H1.out.rr).mono fun e w' hp => H1.out.next hp)
  have CE : Hid (∀ W cs ds, G2 w g cs ds (numS s) W → Calls Tryz.prog 69 #[.pointer (some ⟨g, 0, none⟩)] W fun e w' => e = .returned (.int .i64 (numS s).1) ∧ W = w') := Lib.hid (fun W cs ds hG => err_any g (numS s) W hG.rr)
  have HP : Hid (∀ W cs ds, G2 w g cs ds (numS s) W → RPost w g (numS s) (.tuple #[pval zero, .int .i64 2]) (.returned (.tuple #[pval zero, .int .i64 2])) W) := Lib.hid (fun W cs ds hG => hG.rpost _)
  have HPO := Lib.hid zeroP_one
  generalize RPost w g (numS s) (.tuple #[pval zero, .int .i64 2]) = Got at *
  rw [he] at CE
  have hx1 : decide ((((getN s.2).1 : Nat) : Int) > 1152921504606846976) = true := decide_eq_true (by omega)
  have hx2 : decide (1152921504606846976 < (((getN s.2).1 : Nat) : Int)) = true := hx1
  clear he hx
  generalize numS s = sF at *
  generalize (((getN s.2).1 : Nat) : Int) = x at *
  obtain ⟨kind, ⟨t, f, q⟩, hops, no, to, index, total, stamp, value, ad0, cap0, body⟩ := p
  unfold Pk.cells zero at hW1 CN HPO
  unfold pval Pk.cells zero at HP
  unfold pval Pk.cells
  simp only [List.length_nil] at hW1 CN HP HPO ⊢
  obtain ⟨n, hn⟩ : ∃ n, body.length = n := ⟨_, rfl⟩
  simp only [hn] at hW1 CN ⊢
  clear hn h H1
  go_enter Tryz.func39, Tryz.ntmps39
  go_upto_region 1 with fail
  rw [← hW1.out]
  go_wp2_with fail
  refine (CN.out).mono ?_; rintro e w2 ⟨rfl, H2⟩
  clear CN hW1
  go_wp2_with fail
  refine (CE.out _ _ _ H2.out).mono ?_; rintro e w3 ⟨rfl, rfl⟩
  have b2 := Lib.hid H2.out.res
  have HG4 := Lib.hid (H2.out.row #[.int .i64 0, .int .i64 0, .int .i64 0, .int .u32 0, .int .i64 0, .int .i64 0, .int .i64 0, .int .i64 0, .int .i64 0, .int .i64 0, .int .i64 0, .slice none 0 0] rfl)
  have b4 := Lib.hid HG4.out.res
  clear CE H2
  go_wp2_with (refine wpList_store_row rfl 27 _ _ rfl _ #[.int .i64 0, .int .i64 0, .int .i64 0, .int .u32 0, .int .i64 0, .int .i64 0, .int .i64 0, .int .i64 0, .int .i64 0, .int .i64 0, .int .i64 0, .slice none 0 0] rfl rfl _ _ b2.out infoPk rfl HPO.out ?_)
  exact bodyPost_ret (results_pk2 rfl _ _ (w.heap.size + 1) _ (.int .i64 2) rfl rfl b4.out rfl) rfl (HP.out _ _ _ HG4.out)
/-- The packet with the number that was read, its body elsewhere. -/
def noP (p : Pk) (x : Nat) (ad : Option Addr) (cap : Nat) : Pk := { p with no := sg x, ad := ad, cap := cap }
/-- What Get leaves where it went well. -/
def AGot (p : Pk) (g : Nat) (s : Int × List UInt8) (w : World) (e : Ending) (w' : World) : Prop :=
  ∃ ad cap, e = .returned (.tuple #[pval (noP p (getN s.2).1 ad cap), .int .i64 0]) ∧ Hid (RdB w' ad p.body) ∧ Hid (RR w' g (numS s)) ∧ Hid (RStep w w' g)
set_option maxRecDepth 100000 in
set_option maxHeartbeats 4000000 in
theorem aget_ok (p : Pk) (g : Nat) (s : Int × List UInt8) (w : World) (h : RR w g s) (he : (numS s).1 = 0) (hx : (getN s.2).1 ≤ 1152921504606846976) (hr : RdB w p.ad p.body) (hn : p.ad = none → p.cap = 0) (hle : p.body.length ≤ p.cap) (hm : p.cap ≤ 140737488355328) :
    Calls Tryz.prog 39 #[.pointer (some ⟨g, 0, none⟩), pval p] w (AGot p g s w) := by
  obtain ⟨W1, hW1⟩ : ∃ W1, Hid (W1 = (w.alloc (.cells p.cells 27)).alloc (.cells (Pk.cells zero) 27)) := ⟨_, Lib.hid rfl⟩
  have H1 := Lib.hid (G2.start h _ _ hW1.out)
  have CN : Hid (Calls Tryz.prog 75 #[.pointer (some ⟨g, 0, none⟩)] W1 fun e w' => e = .returned (.int .u64 (((getN s.2).1 : Nat) : Int)) ∧ Hid (G2 w g p.cells (Pk.cells zero) (numS s) w')) := Lib.hid ((rnum_any g s W1 H1.out.rr).mono fun e w' hp => H1.out.next hp)
  have CE : Hid (∀ W cs ds, G2 w g cs ds (numS s) W → Calls Tryz.prog 69 #[.pointer (some ⟨g, 0, none⟩)] W fun e w' => e = .returned (.int .i64 0) ∧ W = w') := Lib.hid (fun W cs ds hG => by
    have := err_any g (numS s) W hG.rr
    rwa [he] at this)
  have CC : Hid (∀ W cs ds, G2 w g cs ds (numS s) W → Calls Tryz.prog 70 #[.slice p.ad p.body.length p.cap] W fun e w' => ∃ ad cap, e = .returned (.slice ad p.body.length cap) ∧ Hid (G2 w g cs ds (numS s) w') ∧ Hid (RdB w' ad p.body)) := Lib.hid (fun W cs ds hG => by
    have hrW : RdB W p.ad p.body := rd_reader hr hG.step h
    refine (clone_any p.ad p.body.length p.cap p.body W rfl hle hm hrW hn).mono fun e w' hh => ?_
    obtain ⟨ad, cap, rfl, q1, q2⟩ := hh
    exact ⟨ad, cap, rfl, Lib.hid (hG.kept q2), Lib.hid q1⟩)
  have HO1 : Hid (∀ ad cap, (noP p (getN s.2).1 ad cap).cells.all (·.oneCell') = true) := Lib.hid (fun ad cap => pkP_one _)
  have HN : Hid (∀ W, G2 w g p.cells (Pk.cells zero) (numS s) W → Hid (W.cell? ⟨w.heap.size, 5, none⟩ = some (.int .i64 p.no) ∧ W.frozen? ⟨w.heap.size, 5, none⟩ = false ∧ G2 w g (noP p (getN s.2).1 p.ad p.cap).cells (Pk.cells zero) (numS s) (W.setCell ⟨w.heap.size, 5, none⟩ (.int .i64 (sg (getN s.2).1))))) := Lib.hid (fun W hG => by
    have q1 := hG.put 5 (.int .i64 (sg (getN s.2).1))
    have e : p.cells.setIfInBounds 5 (.int .i64 (sg (getN s.2).1)) = (noP p (getN s.2).1 p.ad p.cap).cells := by
      unfold noP Pk.cells
      simp only [List.setIfInBounds_toArray, List.set_cons_zero, List.set_cons_succ]
    rw [e] at q1
    exact Lib.hid ⟨hG.box.cell 5, hG.box.free 5, q1⟩)
  have HL : Hid (∀ W ad cap, G2 w g (noP p (getN s.2).1 p.ad p.cap).cells (Pk.cells zero) (numS s) W → RdB W ad p.body → Hid (Blk (W.setCell ⟨w.heap.size, 11, none⟩ (.slice ad p.body.length cap)) w.heap.size 27 (noP p (getN s.2).1 ad cap).cells) ∧ Hid (Blk (W.setCell ⟨w.heap.size, 11, none⟩ (.slice ad p.body.length cap)) (w.heap.size + 1) 27 (Pk.cells zero)) ∧ Hid (Blk ((W.setCell ⟨w.heap.size, 11, none⟩ (.slice ad p.body.length cap)).setRow (w.heap.size + 1) (noP p (getN s.2).1 ad cap).cells) (w.heap.size + 1) 27 (noP p (getN s.2).1 ad cap).cells) ∧ Hid (AGot p g s w (.returned (.tuple #[pval (noP p (getN s.2).1 ad cap), .int .i64 0])) ((W.setCell ⟨w.heap.size, 11, none⟩ (.slice ad p.body.length cap)).setRow (w.heap.size + 1) (noP p (getN s.2).1 ad cap).cells))) := Lib.hid (fun W ad cap hG hrd => by
    have q1 := hG.put 11 (.slice ad p.body.length cap)
    have e : (noP p (getN s.2).1 p.ad p.cap).cells.setIfInBounds 11 (.slice ad p.body.length cap) = (noP p (getN s.2).1 ad cap).cells := by
      unfold noP Pk.cells
      simp only [List.setIfInBounds_toArray, List.set_cons_zero, List.set_cons_succ]
    rw [e] at q1
    have q2 := q1.row (noP p (getN s.2).1 ad cap).cells rfl
    have r1 := rd_other (w' := W.setCell ⟨w.heap.size, 11, none⟩ (.slice ad p.body.length cap)) (noP p (getN s.2).1 p.ad p.cap) hrd hG.box (fun b hb => heap_setCell_other _ _ _ _ hb)
    have r2 := rd_other (w' := (W.setCell ⟨w.heap.size, 11, none⟩ (.slice ad p.body.length cap)).setRow (w.heap.size + 1) (noP p (getN s.2).1 ad cap).cells) zero r1 q1.res (fun b hb => setRow_other _ _ _ _ hb)
    exact ⟨Lib.hid q1.box, Lib.hid q1.res, Lib.hid q2.res, Lib.hid ⟨ad, cap, rfl, Lib.hid r2, Lib.hid q2.rr, Lib.hid q2.step⟩⟩)
  generalize AGot p g s w = Got at *
  clear he hr hn hle hm
  have hx1 : decide ((((getN s.2).1 : Nat) : Int) > 1152921504606846976) = false := decide_eq_false (by omega)
  have hx2 : decide (1152921504606846976 < (((getN s.2).1 : Nat) : Int)) = false := hx1
  clear hx
  unfold noP at HO1 HN HL
  have hv0 : Hid (IntKind.i64.wrap (((getN s.2).1 : Nat) : Int) = sg (getN s.2).1) := Lib.hid rfl
  generalize numS s = sF at *
  generalize sg (getN s.2).1 = v0 at *
  generalize (((getN s.2).1 : Nat) : Int) = x at *
  obtain ⟨kind, ⟨t, f, q⟩, hops, no, to, index, total, stamp, value, ad0, cap0, body⟩ := p
  unfold Pk.cells zero at hW1 CN HN HL
  unfold Pk.cells at HO1
  unfold pval at HL
  unfold pval Pk.cells
  unfold Pk.cells at HL
  simp only [List.length_nil] at hW1 CN CC HN HL HO1 ⊢
  obtain ⟨n, hn⟩ : ∃ n, body.length = n := ⟨_, rfl⟩
  simp only [hn] at hW1 CN CC HN HL HO1 ⊢
  clear hn h H1
  go_enter Tryz.func39, Tryz.ntmps39
  go_upto_region 1 with fail
  rw [← hW1.out]
  go_wp2_with fail
  refine (CN.out).mono ?_; rintro e w2 ⟨rfl, H2⟩
  clear CN hW1
  go_wp2_with fail
  refine (CE.out _ _ _ H2.out).mono ?_; rintro e w3 ⟨rfl, rfl⟩
  clear CE
  obtain ⟨c5, f5, H3⟩ := (HN.out _ H2.out).out
  have H3 := Lib.hid H3
  have hw0 := hv0.out
  clear HN H2
  go_upto_region 8 with fail
  clear hw0
  try rw [hv0.out]
  generalize w2.setCell ⟨w.heap.size, 5, none⟩ (.int .i64 v0) = w3 at *
  clear c5 f5 hv0
  have c11 := H3.out.box.cell 11
  simp only [List.getElem?_toArray, List.getElem?_cons_succ, List.getElem?_cons_zero] at c11
  go_wp2_with fail
  refine (CC.out _ _ _ H3.out).mono ?_; rintro e w5 ⟨ad2, cap2, rfl, H5, R5⟩
  obtain ⟨b1, b2, b4, F⟩ := HL.out w5 ad2 cap2 H5.out R5.out
  have o := Lib.hid (HO1.out ad2 cap2)
  have k11 := H5.out.box.cell 11
  have f11 := H5.out.box.free 11
  simp only [List.getElem?_toArray, List.getElem?_cons_succ, List.getElem?_cons_zero] at k11
  clear c11 CC H5 R5 H3 HL HO1
  go_upto_region 9 with fail
  generalize w5.setCell ⟨w.heap.size, 11, none⟩ (.slice ad2 n cap2) = w6 at *
  clear k11 f11
  go_wp2_with (first
    | (refine wpList_load_row rfl 27 _ rfl _ rfl _ #[.int .i64 kind, .int .i64 t, .int .i64 f, .int .u32 q, .int .i64 hops, .int .i64 v0, .int .i64 to, .int .i64 index, .int .i64 total, .int .i64 stamp, .int .i64 value, .slice ad2 n cap2] _ _ b1.out Tryz.underlying27 rfl infoPk ?_)
    | (refine wpList_store_row rfl 27 _ _ rfl _ #[.int .i64 kind, .int .i64 t, .int .i64 f, .int .u32 q, .int .i64 hops, .int .i64 v0, .int .i64 to, .int .i64 index, .int .i64 total, .int .i64 stamp, .int .i64 value, .slice ad2 n cap2] rfl rfl _ _ b2.out infoPk rfl o.out ?_))
  exact bodyPost_ret (results_pk2 rfl _ _ (w.heap.size + 1) _ (.int .i64 0) rfl rfl b4.out rfl) rfl F.out
end Go.Proofs.YtanfnhgaooafeaaGreatDoor.Att
/-! AttR -/
namespace Go.Proofs.YtanfnhgaooafeaaGreatDoor.Att
open Go.ChangeShapes Go.WideShapes Go.ChangeAt Go.RowKit Go.Deep
open Go.Proofs.YtanfnhgaooafeaaGreatDoor.Byt Go.Proofs.YtanfnhgaooafeaaGreatDoor.Key Go.Proofs.YtanfnhgaooafeaaGreatDoor.Buf Go.Proofs.YtanfnhgaooafeaaGreatDoor.Hed Go.Proofs.YtanfnhgaooafeaaGreatDoor.Dat Go.Proofs.YtanfnhgaooafeaaGreatDoor.BufM Go.Proofs.YtanfnhgaooafeaaGreatDoor.Pkt
set_option linter.unusedVariables false
set_option linter.unusedSimpArgs false
end Go.Proofs.YtanfnhgaooafeaaGreatDoor.Att
/-! AttN -/
namespace Go.Proofs.YtanfnhgaooafeaaGreatDoor.Att
open Go.ChangeShapes Go.WideShapes Go.ChangeAt Go.RowKit Go.Deep
open Go.Proofs.YtanfnhgaooafeaaGreatDoor.Byt Go.Proofs.YtanfnhgaooafeaaGreatDoor.Key Go.Proofs.YtanfnhgaooafeaaGreatDoor.Buf Go.Proofs.YtanfnhgaooafeaaGreatDoor.Hed Go.Proofs.YtanfnhgaooafeaaGreatDoor.Dat Go.Proofs.YtanfnhgaooafeaaGreatDoor.BufM Go.Proofs.YtanfnhgaooafeaaGreatDoor.Pkt
set_option linter.unusedVariables false
set_option linter.unusedSimpArgs false
/-- What is wrong behind the head. -/
def atE (l : List UInt8) : Nat := if (getN l).2.2 = 0 then (if 1152921504606846976 < (getN l).1 then 2 else 0) else (getN l).2.2
/-- The packet with the number that stands there. -/
def filA (p : Pk) (l : List UInt8) : Pk := { p with no := sg (getN l).1 }
/-- What stands behind it. -/
def rgR (l : List UInt8) : List UInt8 := (getN l).2.1
theorem atE_no {l : List UInt8} (h : (getN l).2.2 ≠ 0) : atE l = (getN l).2.2 := by unfold atE; rw [if_neg h]
theorem atE_much {l : List UInt8} (h : (getN l).2.2 = 0) (hx : 1152921504606846976 < (getN l).1) : atE l = 2 := by unfold atE; rw [if_pos h, if_pos hx]
theorem atE_ok {l : List UInt8} (h : atE l = 0) : (getN l).2.2 = 0 ∧ (getN l).1 ≤ 1152921504606846976 := by
  unfold atE at h
  by_cases h1 : (getN l).2.2 = 0
  · rw [if_pos h1] at h
    by_cases h2 : 1152921504606846976 < (getN l).1
    · rw [if_pos h2] at h; cases h
    · exact ⟨h1, by omega⟩
  · rw [if_neg h1] at h
    exact absurd h h1
/-- Get where something is wrong. -/
theorem uaget_bad (p : Pk) (g : Nat) (l : List UInt8) (w : World) (h : RR w g (0, l)) (he : atE l ≠ 0) :
    Calls Tryz.prog 39 #[.pointer (some ⟨g, 0, none⟩), pval p] w fun e w' => e = .returned (.tuple #[pval zero, .int .i64 ((atE l : Nat) : Int)]) ∧ RStep w w' g := by
  by_cases h1 : (getN l).2.2 = 0
  · by_cases h2 : 1152921504606846976 < (getN l).1
    · rw [atE_much h1 h2]
      exact (aget_range p g (0, l) w h (by rw [numS_zero, if_pos h1]) h2).mono fun e w' hq => ⟨hq.1, hq.2.2⟩
    · exact absurd (by unfold atE; rw [if_pos h1, if_neg h2]) he
  · have hs : (numS (0, l)).1 = (((getN l).2.2 : Nat) : Int) := by rw [numS_zero, if_neg h1]
    have := aget_err p g (0, l) w h (by rw [hs]; omega)
    rw [hs] at this
    rw [atE_no h1]
    exact this.mono fun e w' hq => ⟨hq.1, hq.2.2⟩
/-- Get where nothing is wrong. -/
theorem uaget_ok (p : Pk) (g : Nat) (l : List UInt8) (w : World) (h : RR w g (0, l)) (he : atE l = 0) (hr : RdB w p.ad p.body) (hn : p.ad = none → p.cap = 0) (hle : p.body.length ≤ p.cap) (hm : p.cap ≤ 140737488355328) :
    Calls Tryz.prog 39 #[.pointer (some ⟨g, 0, none⟩), pval p] w fun e w' => ∃ ad cap, e = .returned (.tuple #[pval (memP (filA p l) ad cap), .int .i64 0]) ∧ Hid (RdB w' ad p.body) ∧ Hid (RR w' g (0, rgR l)) ∧ Hid (RStep w w' g) := by
  obtain ⟨h1, h2⟩ := atE_ok he
  have hs : numS (0, l) = (0, rgR l) := by rw [numS_zero, if_pos h1]; rfl
  have := aget_ok p g (0, l) w h (by rw [hs]) h2 hr hn hle hm
  refine this.mono fun e w' hq => ?_
  obtain ⟨ad, cap, rfl, q1, q2, q3⟩ := hq
  rw [hs] at q2
  exact ⟨ad, cap, rfl, q1, q2, q3⟩
/-- What was put. -/
theorem att_fits (n : Int) : wNum (40 : Int).toNat (0, []) (un n) = (0, sev (un n)) := by
  unfold wNum
  rw [wByte_fits _ rfl (by have := sev_len10 (un n) (un_lt _); show ¬ 40 - ([] : List UInt8).length < _; simp only [List.length_nil]; omega)]
  rfl
theorem fil_same (p : Pk) (l : List UInt8) : (filA p l).ad = p.ad ∧ (filA p l).cap = p.cap ∧ (filA p l).body = p.body := ⟨rfl, rfl, rfl⟩
/-- The packet's head alone. -/
def headA (p : Pk) : Pk := ⟨5, p.key, p.hops, 0, 0, 0, 0, 0, 0, none, 0, []⟩
/-- A good packet's head alone, the number got again: the packet. -/
theorem att_got (p : Pk) (h : attG p = true) :
    atE (sev (un p.no)) = 0 ∧ rgR (sev (un p.no)) = [] ∧ ∀ ad cap, eqP p (memP (filA (headA p) (sev (un p.no))) ad cap) = true := by
  obtain ⟨hk, -, hn, h1, h2, h3, h4, h5, h6⟩ := (attG_iff p).1 h
  have hno : sg (un p.no) = p.no := sg_un p.no (by omega)
  have g := getN_sev (un p.no) (un_lt _) []
  rw [List.append_nil] at g
  have hx : ¬ 1152921504606846976 < un p.no := by unfold un; omega
  unfold atE rgR filA memP headA
  simp only [g, if_true, if_neg hx]
  refine ⟨trivial, trivial, fun ad cap => (eqP_iff _ _).2 ?_⟩
  simp only
  exact ⟨hk, trivial, trivial, hno.symm, h1, h2, h3, h4, h5, h6⟩
end Go.Proofs.YtanfnhgaooafeaaGreatDoor.Att
