/- The document's Get (layer 10). -/
import Derived.Test.YtjifdbhgoakjpaaDatH
namespace Go.Proofs.Ytjifdbhgoakjpaa.Dat
open Go.ChangeShapes Go.WideShapes Go.ChangeAt Go.RowKit Go.Deep
open Go.Proofs.Ytjifdbhgoakjpaa.Byt Go.Proofs.Ytjifdbhgoakjpaa.Key Go.Proofs.Ytjifdbhgoakjpaa.Buf Go.Proofs.Ytjifdbhgoakjpaa.Hed Go.Proofs.Ytjifdbhgoakjpaa.BufM
set_option linter.unusedVariables false
set_option linter.unusedSimpArgs false
/-- What the document's Get leaves where it went well. -/
def RGotP (p : Pk) (w : World) (r : List UInt8 × List UInt8 × Nat) (e : Ending) (w' : World) : Prop :=
  ∃ ad cap ad2 cap2, e = .returned (.tuple #[pval (bodG p ad cap r.1), .slice ad2 r.2.1.length cap2, .int .i64 0]) ∧ RdB w' ad r.1 ∧ Below w.heap.size w w'
theorem rds_grown {w W V : World} {G : Nat} {ad : Option Addr} {len cap : Nat} {l : List UInt8} (h : RdS W G ad len cap l) (hG : G ≤ w.heap.size) (hB : Below w.heap.size W V) : RdB V ad l := (h.kept (fun b hb => hB.block b (by omega))).rd
set_option maxRecDepth 100000 in
set_option maxHeartbeats 2000000 in
theorem rget_ok (p : Pk) (ad0 : Option Addr) (len0 cap0 G : Nat) (l : List UInt8) (w : World) (h : RdS w G ad0 len0 cap0 l) (hG : G ≤ w.heap.size) (h0 : (getB l 1024).2.2 = 0) :
    Calls Try.prog 22 #[.slice ad0 len0 cap0, pval p] w (RGotP p w (getB l 1024)) := by
  obtain ⟨W1, hW1⟩ : ∃ W1, Hid (W1 = (w.alloc (.cells p.cells 27)).alloc (.cells (Pk.cells zero) 27)) := ⟨_, Lib.hid rfl⟩
  have HX := Lib.hid (boxes_two w W1 _ _ _ hW1.out)
  have CB : Hid (Calls Try.prog 34 #[.slice ad0 len0 cap0, .int .i64 1024] W1 fun e w' => ∃ ad cap ad2 cap2, e = .returned (.tuple #[.slice ad (getB l 1024).1.length cap, .slice ad2 (getB l 1024).2.1.length cap2, .int .i64 0]) ∧ Hid (RdS W1 G ad (getB l 1024).1.length cap (getB l 1024).1) ∧ Hid (Below w.heap.size w w' ∧ Blk w' w.heap.size 27 p.cells ∧ Blk w' (w.heap.size + 1) 27 (Pk.cells zero) ∧ Below w.heap.size W1 w')) := Lib.hid ((gbytes_any ad0 len0 cap0 G l 1024 W1 (h.kept fun b hb => HX.out.1.block b (by omega)) (by omega)).mono fun e w' hq => by
    obtain ⟨ad, len, cap, ad2, len2, cap2, n, rfl, rfl, r1, r2⟩ := hq
    obtain rfl := r1.len_
    obtain rfl := r2.len_
    have hB := Own.below_drewN (Below.refl W1.heap.size W1) n
    refine ⟨ad, cap, ad2, cap2, ?_, Lib.hid r1, Lib.hid ⟨HX.out.1.trans (hB.mono HX.out.1.size), HX.out.2.1.drewN n, HX.out.2.2.drewN n, hB.mono HX.out.1.size⟩⟩
    rw [h0]; rfl)
  generalize getB l 1024 = r at *
  obtain ⟨out, rest, er⟩ := r
  simp only at h0 CB
  subst h0
  obtain ⟨kind, ⟨t, f, q⟩, hops, no, to, index, total, stamp, value, ad1, cap1, body⟩ := p
  have HP : Hid (∀ ad cap ad2 cap2 W, RdB W ad out → Below w.heap.size w W → RGotP ⟨kind, (t, f, q), hops, no, to, index, total, stamp, value, ad1, cap1, body⟩ w (out, rest, 0) (.returned (.tuple #[pval (bodG ⟨kind, (t, f, q), hops, no, to, index, total, stamp, value, ad1, cap1, body⟩ ad cap out), .slice ad2 rest.length cap2, .int .i64 0])) W) := Lib.hid (fun ad cap ad2 cap2 W ho hB => ⟨ad, cap, ad2, cap2, rfl, ho, hB⟩)
  have HPO : Hid (∀ ad cap, Array.all (Pk.cells (bodG ⟨kind, (t, f, q), hops, no, to, index, total, stamp, value, ad1, cap1, body⟩ ad cap out)) (·.oneCell') = true) := Lib.hid (fun ad cap => pkP_one _)
  unfold bodG pval at HP
  unfold bodG at HPO
  unfold Pk.cells zero at hW1 CB
  unfold Pk.cells at HP HPO
  unfold pval Pk.cells
  simp only [List.length_nil] at hW1 CB HP HPO ⊢
  generalize hGot : RGotP ⟨kind, (t, f, q), hops, no, to, index, total, stamp, value, ad1, cap1, body⟩ w (out, rest, 0) = Got at *
  obtain ⟨n, hn⟩ : ∃ n, body.length = n := ⟨_, rfl⟩
  obtain ⟨m, hm⟩ : ∃ m, out.length = m := ⟨_, rfl⟩
  obtain ⟨k, hk⟩ : ∃ k, rest.length = k := ⟨_, rfl⟩
  simp only [hn] at hW1 CB ⊢
  simp only [hm] at CB HP HPO
  simp only [hk] at CB HP
  clear hn hm hk h hGot HX
  have hGw := Lib.hid hG
  clear hG
  go_enter Try.func22, Try.ntmps22
  go_upto_region 1 with fail
  rw [← hW1.out]
  go_wp2_with fail
  refine (CB.out).mono ?_; rintro e w2 ⟨ad, cap, ad2, cap2, rfl, HR, HG⟩
  have k11 := HG.out.2.1.cell 11
  have f11 := HG.out.2.1.free 11
  simp only [List.getElem?_toArray, List.getElem?_cons_succ, List.getElem?_cons_zero] at k11
  have b3 := HG.out.2.1.put 11 (.slice ad m cap)
  simp only [List.setIfInBounds_toArray, List.set_cons_zero, List.set_cons_succ] at b3
  have b1 := Lib.hid b3
  have b2 := Lib.hid (HG.out.2.2.1.far (p := ⟨w.heap.size, 11, none⟩) (by simp) (.slice ad m cap))
  have HB3 := Lib.hid (HG.out.1.setCell (p := ⟨w.heap.size, 11, none⟩) (Nat.le_refl _) (.slice ad m cap))
  have HC3 := Lib.hid (HG.out.2.2.2.setCell (p := ⟨w.heap.size, 11, none⟩) (Nat.le_refl _) (.slice ad m cap))
  clear CB HG hW1 b3
  go_upto_region 5 with fail
  generalize w2.setCell ⟨w.heap.size, 11, none⟩ (.slice ad m cap) = w3 at *
  clear k11 f11
  have b4 := Lib.hid (Blk.row b2.out #[.int .i64 kind, .int .i64 t, .int .i64 f, .int .u32 q, .int .i64 hops, .int .i64 no, .int .i64 to, .int .i64 index, .int .i64 total, .int .i64 stamp, .int .i64 value, .slice ad m cap] rfl)
  have HB4 := Lib.hid (below_setRow HB3.out (show w.heap.size ≤ w.heap.size + 1 by omega) #[.int .i64 kind, .int .i64 t, .int .i64 f, .int .u32 q, .int .i64 hops, .int .i64 no, .int .i64 to, .int .i64 index, .int .i64 total, .int .i64 stamp, .int .i64 value, .slice ad m cap])
  have HC4 := Lib.hid (below_setRow HC3.out (show w.heap.size ≤ w.heap.size + 1 by omega) #[.int .i64 kind, .int .i64 t, .int .i64 f, .int .u32 q, .int .i64 hops, .int .i64 no, .int .i64 to, .int .i64 index, .int .i64 total, .int .i64 stamp, .int .i64 value, .slice ad m cap])
  have O := Lib.hid (HPO.out ad cap)
  clear HPO HB3 HC3
  go_wp2_with (first
    | (refine wpList_load_row rfl 27 _ rfl _ rfl _ #[.int .i64 kind, .int .i64 t, .int .i64 f, .int .u32 q, .int .i64 hops, .int .i64 no, .int .i64 to, .int .i64 index, .int .i64 total, .int .i64 stamp, .int .i64 value, .slice ad m cap] _ _ b1.out Try.underlying27 rfl infoPk ?_)
    | (refine wpList_store_row rfl 27 _ _ rfl _ #[.int .i64 kind, .int .i64 t, .int .i64 f, .int .u32 q, .int .i64 hops, .int .i64 no, .int .i64 to, .int .i64 index, .int .i64 total, .int .i64 stamp, .int .i64 value, .slice ad m cap] rfl rfl _ _ b2.out infoPk rfl O.out ?_))
  exact bodyPost_ret (results_pk33 rfl _ _ (w.heap.size + 1) _ (.slice ad2 k cap2) (.int .i64 0) rfl rfl rfl b4.out rfl) rfl (HP.out ad cap ad2 cap2 _ (rds_grown HR.out hGw.out HC4.out) HB4.out)
set_option maxRecDepth 100000 in
set_option maxHeartbeats 2000000 in
theorem rget_bad (p : Pk) (ad0 : Option Addr) (len0 cap0 G : Nat) (l : List UInt8) (w : World) (h : RdS w G ad0 len0 cap0 l) (hG : G ≤ w.heap.size) (h0 : (getB l 1024).2.2 ≠ 0) :
    Calls Try.prog 22 #[.slice ad0 len0 cap0, pval p] w fun e w' => e = .returned (.tuple #[pval zero, .slice none 0 0, .int .i64 (((getB l 1024).2.2 : Nat) : Int)]) ∧ Below w.heap.size w w' := by
  obtain ⟨W1, hW1⟩ : ∃ W1, Hid (W1 = (w.alloc (.cells p.cells 27)).alloc (.cells (Pk.cells zero) 27)) := ⟨_, Lib.hid rfl⟩
  have HX := Lib.hid (boxes_two w W1 _ _ _ hW1.out)
  have CB : Hid (Calls Try.prog 34 #[.slice ad0 len0 cap0, .int .i64 1024] W1 fun e w' => ∃ ad len cap ad2 len2 cap2, e = .returned (.tuple #[.slice ad len cap, .slice ad2 len2 cap2, .int .i64 (((getB l 1024).2.2 : Nat) : Int)]) ∧ Hid (Below w.heap.size w w' ∧ Blk w' (w.heap.size + 1) 27 (Pk.cells zero))) := Lib.hid ((gbytes_any ad0 len0 cap0 G l 1024 W1 (h.kept fun b hb => HX.out.1.block b (by omega)) (by omega)).mono fun e w' hq => by
    obtain ⟨ad, len, cap, ad2, len2, cap2, n, rfl, rfl, r1, r2⟩ := hq
    have hB := Own.below_drewN (Below.refl W1.heap.size W1) n
    exact ⟨ad, len, cap, ad2, len2, cap2, rfl, Lib.hid ⟨HX.out.1.trans (hB.mono HX.out.1.size), HX.out.2.2.drewN n⟩⟩)
  have hne : ((((getB l 1024).2.2 : Nat) : Int) == 0) = false := by simpa using h0
  have HPO := Lib.hid zeroP_one
  generalize (getB l 1024).2.2 = er at *
  obtain ⟨kind, ⟨t, f, q⟩, hops, no, to, index, total, stamp, value, ad1, cap1, body⟩ := p
  unfold Pk.cells zero at hW1 CB HPO
  unfold pval Pk.cells zero
  simp only [List.length_nil] at hW1 CB HPO ⊢
  obtain ⟨n, hn⟩ : ∃ n, body.length = n := ⟨_, rfl⟩
  simp only [hn] at hW1 CB ⊢
  clear hn h h0 HX hG
  go_enter Try.func22, Try.ntmps22
  go_upto_region 1 with fail
  rw [← hW1.out]
  go_wp2_with fail
  refine (CB.out).mono ?_; rintro e w2 ⟨ad, len, cap, ad2, len2, cap2, rfl, HG⟩
  have b2 := Lib.hid HG.out.2
  have b4 := Lib.hid (Blk.row HG.out.2 #[.int .i64 0, .int .i64 0, .int .i64 0, .int .u32 0, .int .i64 0, .int .i64 0, .int .i64 0, .int .i64 0, .int .i64 0, .int .i64 0, .int .i64 0, .slice none 0 0] rfl)
  have HB4 := Lib.hid (below_setRow HG.out.1 (show w.heap.size ≤ w.heap.size + 1 by omega) #[.int .i64 0, .int .i64 0, .int .i64 0, .int .u32 0, .int .i64 0, .int .i64 0, .int .i64 0, .int .i64 0, .int .i64 0, .int .i64 0, .int .i64 0, .slice none 0 0])
  clear CB HG hW1
  go_wp2_with (refine wpList_store_row rfl 27 _ _ rfl _ #[.int .i64 0, .int .i64 0, .int .i64 0, .int .u32 0, .int .i64 0, .int .i64 0, .int .i64 0, .int .i64 0, .int .i64 0, .int .i64 0, .int .i64 0, .slice none 0 0] rfl rfl _ _ b2.out infoPk rfl HPO.out ?_)
  exact bodyPost_ret (results_pk33 rfl _ _ (w.heap.size + 1) _ (.slice none 0 0) (.int .i64 er) rfl rfl rfl b4.out rfl) rfl ⟨rfl, HB4.out⟩
end Go.Proofs.Ytjifdbhgoakjpaa.Dat
