/- Whatever readings are noted, a round tells what the document says. -/
import Derived.Test.YtcadmepfnafpmaaRows
import Derived.WalkKit
import Derived.ProofKit
import Derived.OpenShut
import Derived.ShutString
import Derived.ChangeOld
import Derived.Below
import Derived.Test.YtcadmepfnafpmaaRndP
import Derived.Test.YtcadmepfnafpmaaRndV
import Derived.Deep.Cut
import Derived.Deep.CutRange
import Derived.Deep.RegionWith
import Derived.BigRegion
import Derived.BigQuiet
import Derived.Deep.RegionHeld3
import Derived.Deep.RegionHeldLaw
namespace Go.Proofs.Ytcadmepfnafpmaa.lawRoundPlays
open Go.ChangeShapes Go.WideShapes Go.ChangeAt Go.RowKit
open Go.ChangeMaps (open_string shut_string)
set_option linter.unusedVariables false

theorem own : ownKnob Try.prog.godebug = none := by kernel_rfl
theorem laidOut : laidOutB Try.prog = true := by kernel_rfl

/-! The walk: the Go text returns true and writes nothing that was there. -/
set_option linter.unusedSimpArgs false in
set_option maxRecDepth 100000 in
set_option maxHeartbeats 4000000 in
theorem walk (a0 : Int) (a1 : Option Addr) (len1 cap1 : Nat) (z1 : List Rnd.Rg) (a2 : Int) (w : World) (w0 : (Lit.int .i64 a0).wf = true) (w1 : Rnd.Rds w w.heap.size a1 len1 cap1 z1) (w2 : (Lit.int .i64 a2).wf = true) :
    Calls Try.prog 3 #[.int .i64 a0, .slice a1 len1 cap1, .int .i64 a2] w fun e w' => e = .returned (.bool true) ∧ Below w.heap.size w w' := by
  have hlen := w1.len_
  have hl1 := w1.le
  have hl2 := w1.max
  have HLA : Hid (∀ k, k < len1 → ∃ b off, a1 = some ⟨b, off, none⟩ ∧ (∀ W, Below w.heap.size w W → W.cell? ⟨b, off + k * 2, none⟩ = some (.int .i64 (z1.getD k default).1) ∧ W.cell? ⟨b, off + k * 2 + 1, none⟩ = some (.int .i64 (z1.getD k default).2)) ∧ Rnd.okR (z1.getD k default)) := Lib.hid (fun k hk => by
    obtain ⟨b, off, e, hb, hc⟩ := w1.rd.at_ (i := k) (by omega)
    exact ⟨b, off, e, fun W hW => Rnd.at25 (hc.below hW hb), w1.ok _ (Rnd.getD_memR (by omega))⟩)
  have C1 := Lib.hid (fun W => Rnd.rnew_any a0 W)
  have CN : Hid (∀ W mb L x d g, Rnd.in64 x → Rnd.in64 d → Rnd.RR W w.heap.size g a0 mb L → w.heap.size ≤ W.heap.size → Calls Try.prog 9 #[.pointer (some ⟨g, 0, none⟩), .int .i64 x, .int .i64 d] W (Rnd.NotePost W w.heap.size g a0 mb (Rnd.noteL L x d) (Rnd.noteE L x))) := Lib.hid (fun W mb L x d g hx hd h hB => Rnd.rnote_any hx hd W h hB)
  have CL := Lib.hid (fun W ad cap L x d (h : Rnd.RS W ad cap L) (hm : L.length ≤ 1000) => Rnd.rrnote_any ad cap L x d W h hm)
  have C9 := Lib.hid (fun W => Rnd.works25_any W)
  unfold Rnd.NewPost at C1
  clear w0 w1 hlen
  go_enter Try.func3, Try.ntmps3
  go_wp2_with fail
  refine (C1.out _).mono ?_; rintro e w3 ⟨g, rfl, hr, hB⟩
  have HX : Hid (Rnd.St w w3 g a0 none [] none 0 []) := Lib.hid ⟨hr, Rnd.RS.start _, hB⟩
  clear hr hB C1
  go_wp2_with fail
  go_loopw [8, 9, 10, 11, 12] (fun wv i _ _ _ wr => ∃ (k : Nat) (L : List Rnd.Rg) (mb : Option Nat) (ad : Option Addr) (cap : Nat), k ≤ len1 ∧ k ≤ 70 ∧ i = .int .i64 k ∧ wv = .slice ad L.length cap ∧ Hid (Rnd.St w wr g a0 mb L ad cap L)) (fun _ i _ _ _ _ => 70 - (intOf i).toNat)
  case atStart => exact ⟨0, [], none, none, 0, Nat.zero_le _, Nat.zero_le _, rfl, rfl, HX⟩
  case round =>
    clear HX
    obtain ⟨k, L, mb, ad, cap, hk, hk70, rfl, rfl, HX⟩ := hrel
    by_cases hlt : k < len1
    · by_cases h70 : k < 70
      · have d1 : decide ((k : Int) < (len1 : Int)) = true := decide_eq_true (by omega)
        have d2 : decide ((k : Int) < 70) = true := decide_eq_true (by omega)
        obtain ⟨b, off, rfl, hcl, hx, hd⟩ := HLA.out k hlt
        have HCl := Lib.hid hcl
        obtain ⟨c1, c2⟩ := hcl wr HX.out.below
        have hn64 := HX.out.rr.ok.len
        generalize z1.getD k default = p at *
        obtain ⟨x, d⟩ := p
        simp only at c1 c2 hx hd HCl
        have HS1 : Hid (∀ W, Below w.heap.size w W → W.cell? ⟨b, off + k * 2, none⟩ = some (.int .i64 x) ∧ W.cell? ⟨b, off + k * 2 + 1, none⟩ = some (.int .i64 d)) := HCl
        have CA := Lib.hid (CN.out wr.drew mb L x d g hx hd HX.out.drew.rr HX.out.drew.below.size)
        have HPA : Hid (∀ e W', Rnd.NotePost wr.drew w.heap.size g a0 mb (Rnd.noteL L x d) (Rnd.noteE L x) e W' → e = .returned (.int .i64 (Rnd.noteE L x)) ∧ ∃ mb', Rnd.St w W' g a0 mb' (Rnd.noteL L x d) ad cap L) := Lib.hid (fun e W' hp => HX.out.drew.noteA hp)
        have CB : Hid (∀ W mb', Rnd.St w W g a0 mb' (Rnd.noteL L x d) ad cap L → Calls Try.prog 10 #[.slice ad L.length cap, .int .i64 x, .int .i64 d] W (Rnd.RNotePost (Rnd.noteL L x d) (Rnd.noteE L x) W)) := Lib.hid (fun W mb' h => CL.out W ad cap L x d h.rs (by omega))
        have HPB : Hid (∀ W mb' e W', Rnd.St w W g a0 mb' (Rnd.noteL L x d) ad cap L → Rnd.RNotePost (Rnd.noteL L x d) (Rnd.noteE L x) W e W' → ∃ ad' cap', e = .returned (.tuple #[.slice ad' (Rnd.noteL L x d).length cap', .int .i64 (Rnd.noteE L x)]) ∧ Rnd.St w W' g a0 mb' (Rnd.noteL L x d) ad' cap' (Rnd.noteL L x d)) := Lib.hid (fun W mb' e W' h hp => h.noteL hp)
        have HB0 := Lib.hid HX.out.drew.below
        clear hcl HCl hx hd HX
        generalize Rnd.noteE L x = er at *
        generalize Rnd.noteL L x d = M at *
        have e0 : (er != er) = false := bne_self_eq_false _
        have e1 : (er == er) = true := beq_self_eq_true _
        go_upto_region 6 with fail
        refine wp_region_noPanic ?_
        go_region_held_law (fun W => W.cell? ⟨b, off + k * 2, none⟩ = some (.int .i64 x) ∧ W.cell? ⟨b, off + k * 2 + 1, none⟩ = some (.int .i64 d)) ((refine HS1.out _ ?_; (first | exact HB0.out | assumption)))
          ((go_at_call 9; refine (CA.out).mono ?_; intro q W hq; obtain ⟨rfl, mb', hSt⟩ := HPA.out _ _ hq; have hBW := hSt.below))
        rename_i hHeld
        clear hHeld
        refine NoPanic.normal ?_
        have HT := Lib.hid hSt
        have CB1 := Lib.hid (CB.out W.drew mb' hSt.drew)
        have HPB1 : Hid (∀ e W', Rnd.RNotePost M er W.drew e W' → ∃ ad' cap', e = .returned (.tuple #[.slice ad' M.length cap', .int .i64 er]) ∧ Rnd.St w W' g a0 mb' M ad' cap' M) := Lib.hid (fun e W' hp => HPB.out W.drew mb' e W' hSt.drew hp)
        have HB7 := Lib.hid hSt.drew.below
        clear hSt hBW hq CB HPB CA HPA c1 c2 HB0
        try simp only [Act.put, List.getElem_toArray, List.getElem_cons_succ, List.getElem_cons_zero, List.setIfInBounds_toArray, List.set_cons_zero, List.set_cons_succ]
        obtain ⟨c1, c2⟩ := HS1.out W.drew HB7.out
        go_upto_region 7 with fail
        refine wp_region_noPanic ?_
        go_region_held_law (fun W => W.cell? ⟨b, off + k * 2, none⟩ = some (.int .i64 x) ∧ W.cell? ⟨b, off + k * 2 + 1, none⟩ = some (.int .i64 d)) ((refine HS1.out _ ?_; (first | exact HB7.out | assumption)))
          ((go_at_call 10; refine (CB1.out).mono ?_; intro q V hq; obtain ⟨ad', cap', rfl, hSt⟩ := HPB1.out _ _ hq; have hBW := hSt.below))
        rename_i hHeld
        clear hHeld
        refine NoPanic.normal ?_
        have HT2 := Lib.hid hSt
        clear hSt hBW hq CB1 HPB1 HB7 HT c1 c2 HS1
        try simp only [Act.put, List.getElem_toArray, List.getElem_cons_succ, List.getElem_cons_zero, List.setIfInBounds_toArray, List.set_cons_zero, List.set_cons_succ]
        go_wp2_with fail
        go_roundw
        case rel => exact ⟨k + 1, M, mb', ad', cap', by omega, by omega, by go_num, rfl, HT2⟩
        case measure => simp [intOf]; omega
      · have d1 : decide ((k : Int) < (len1 : Int)) = true := decide_eq_true (by omega)
        have d2 : decide ((k : Int) < 70) = false := decide_eq_false (by omega)
        clear HLA CN CL
        generalize wr = w5 at *
        have HOk := Lib.hid HX.out.rr.ok
        have hn64 := HX.out.rr.ok.len
        obtain ⟨m, hm⟩ : ∃ m, L.length = m := ⟨_, rfl⟩
        have HR : Hid (∀ j, j < m → ∃ b off, ad = some ⟨b, off, none⟩ ∧ ∀ W, Below w5.heap.size w5 W → W.cell? ⟨b, off + j * 2, none⟩ = some (.int .i64 (L.getD j default).1) ∧ W.cell? ⟨b, off + j * 2 + 1, none⟩ = some (.int .i64 (L.getD j default).2)) := Lib.hid (fun j hj => HX.out.rs.at (by omega))
        have HTk : Hid (∀ j, j < m → L.take (j + 1) = L.take j ++ [L.getD j default]) := Lib.hid (fun j hj => Rnd.takeR_succ (by omega))
        have HTm : Hid (L.take m = L) := Lib.hid (by rw [← hm]; exact List.take_length)
        have HKl : Hid (∀ j, (Rnd.keysR (L.take j)).length ≤ 64) := Lib.hid (fun j => by rw [Rnd.keysR_len, List.length_take]; omega)
        have CG : Hid (∀ W j, j < m → Below w5.heap.size w5 W → Calls Try.prog 11 #[.pointer (some ⟨g, 0, none⟩), .int .i64 (L.getD j default).1] W fun e w' => e = .returned (.tuple #[.int .i64 (L.getD j default).2, .bool true]) ∧ W = w') := Lib.hid (fun W j hj hW => by
          have hp := Rnd.getD_memR (L := L) (k := j) (by omega)
          have hr := HOk.out.rng _ hp
          have := Rnd.rget_any (x := (L.getD j default).1) (by unfold Rnd.in64; omega) W (HX.out.rr.below hW)
          rwa [Rnd.getR_of_mem HOk.out.nd hp, Rnd.hasR_iff.2 (List.mem_map.2 ⟨_, hp, rfl⟩)] at this)
        rw [hm] at hn64 ⊢
        have HM := Lib.hid hm
        clear hm
        go_wp2_with fail
        go_loopw [13, 15, 16, 17, 69] (fun wv _ _ _ i V => ∃ (j : Nat) (v : Value), v = wv ∧ j ≤ m ∧ i = .int .i64 j ∧ Hid (Ints.OwnL V w5.heap.size v (Rnd.keysR (L.take j))) ∧ Hid (Below w5.heap.size w5 V)) (fun _ _ _ _ i _ => m - (intOf i).toNat)
        case atStart => exact ⟨0, _, rfl, Nat.zero_le _, rfl, Lib.hid (Rnd.own_nil _ _), Lib.hid (Below.refl _ _)⟩
        case round =>
          obtain ⟨j, v, rfl, hj, rfl, HO, HB⟩ := hrel
          by_cases hjm : j < m
          · have d3 : decide ((j : Int) < (m : Int)) = true := decide_eq_true (by omega)
            obtain ⟨b', off', rfl, hcl⟩ := HR.out j hjm
            obtain ⟨c1, c2⟩ := hcl wr HB.out
            have HT1 := Lib.hid (show Rnd.keysR (L.take (j + 1)) = Rnd.keysR (L.take j) ++ [(L.getD j default).1] by rw [HTk.out j hjm, Rnd.keysR_snoc])
            have CG1 := Lib.hid (fun W => CG.out W j hjm)
            have hk64 := HKl.out j
            clear hcl
            generalize L.getD j default = p at *
            obtain ⟨x, d⟩ := p
            simp only at c1 c2 HT1 CG1
            have hsz := HB.out.size
            have hO5 := HO.out
            go_upto_region 15 with fail
            have Q0 : (wr.alloc (.cells #[.int .i64 x, .int .i64 d] 28)).cell? ⟨wr.heap.size, 0, none⟩ = some (.int .i64 x) := (Rw.Blk.new wr _ _).cell 0
            have Q1 : (wr.alloc (.cells #[.int .i64 x, .int .i64 d] 28)).cell? ⟨wr.heap.size, 1, none⟩ = some (.int .i64 d) := (Rw.Blk.new wr _ _).cell 1
            have HOb := hO5.alloc (.cells #[.int .i64 x, .int .i64 d] 28)
            have HBb := Lib.hid (HB.out.alloc hsz (.cells #[.int .i64 x, .int .i64 d] 28))
            have hlt5 : wr.heap.size < (wr.alloc (.cells #[.int .i64 x, .int .i64 d] 28)).heap.size := by simp
            have HNe : Hid (∀ y, v.ownBlock = some y → y ≠ wr.heap.size) := Lib.hid (fun y hy => by have := Rnd.own_lt hO5 hy; omega)
            clear c1 c2 hO5 HO HB hsz
            generalize (wr.alloc (.cells #[.int .i64 x, .int .i64 d] 28)) = wb at *
            generalize wr.heap.size = e at *
            have hszb := HBb.out.size
            have hk65 : (Rnd.keysR (L.take j)).length < 1099511627776 := by omega
            go_wp2_with (at_builtin; refine Rnd.app_oneI rfl _ _ rfl w5.heap.size _ _ rfl HOb x rfl hk65 hszb ?_; intro v' w6 hown' hB' hK' hb'; have hblk := hK' e hlt5 (fun he => HNe.out e he.symm rfl); have q0 : w6.cell? ⟨e, 0, none⟩ = some (.int .i64 x) := (World.cell?_of_block (a := ⟨e, 0, none⟩) hblk).trans Q0; have q1 : w6.cell? ⟨e, 1, none⟩ = some (.int .i64 d) := (World.cell?_of_block (a := ⟨e, 1, none⟩) hblk).trans Q1; clear hblk Q0 Q1 hK' hb')
            have HB6 := Lib.hid (HBb.out.trans hB')
            have HO6 := Lib.hid hown'
            clear hown' hB' HBb HOb
            refine (CG1.out w6 HB6.out).mono ?_; rintro q w7 ⟨rfl, rfl⟩
            have z0 : (d != d) = false := bne_self_eq_false _
            go_wp2_with fail
            go_roundw
            case rel => exact ⟨j + 1, v', rfl, by omega, by go_num, Lib.hid (by rw [HT1.out]; exact HO6.out), HB6⟩
            case measure => simp [intOf]; omega
          · have d3 : decide ((j : Int) < (m : Int)) = false := decide_eq_false (by omega)
            obtain rfl : j = m := by omega
            have hO5 := HO.out
            rw [HTm.out] at hO5
            have HZ := Lib.hid (HX.out.later HB.out)
            obtain ⟨adk, capk, rfl, -⟩ := Own.shape hO5
            obtain ⟨hrdk, -⟩ := Ints.OwnL.rd hO5
            have HRk := Lib.hid hrdk
            have hcapk : (Rnd.keysR L).length ≤ 64 := by rw [Rnd.keysR_len]; exact HOk.out.len
            have HLk := Lib.hid (show (Rnd.keysR L).length = j by rw [Rnd.keysR_len, HM.out])
            have CC := Lib.hid (Rnd.rclose_any a2 wr HZ.out.rr)
            have CD := Lib.hid (fun W (h : Rnd.St w W g a0 mb L ad cap L) => Rnd.rrclose_any a2 ad cap L W h.rs (by rw [HM.out]; omega) (Rnd.vals64 HOk.out))
            have C64 := Lib.hid (fun W (h : Rnd.St w W g a0 mb L ad cap L) => Rnd.rget_any (x := 64) (by unfold Rnd.in64; omega) W h.rr)
            have CNo := Lib.hid (fun W (h : Rnd.St w W g a0 mb L ad cap L) => Rnd.rno_any W h.rr)
            have CLe := Lib.hid (fun W (h : Rnd.St w W g a0 mb L ad cap L) => Rnd.rlen_any W h.rr)
            have CWh := Lib.hid (fun W (h : Rnd.St w W g a0 mb L ad cap L) => Rnd.rwho_any W h.rr)
            have COf : Hid (∀ W, Nodes.Rd W adk (Rnd.keysR L) → Calls Try.prog 17 #[.slice adk j capk] W fun e w' => e = .returned (.int .u64 ((Rnd.whoR L : Nat) : Int)) ∧ W = w') := Lib.hid (fun W h => Nodes.rof_any adk j capk (Rnd.keysR L) W HLk.out (by omega) h)
            rw [Rnd.has64 HOk.out] at C64
            rw [HM.out] at CLe CD
            rw [HLk.out] at ⊢
            have HLt : Hid (∀ W W', Rnd.St w W g a0 mb L ad cap L → Below W.heap.size W W' → Rnd.St w W' g a0 mb L ad cap L) := Lib.hid (fun W W' h hB => h.later hB)
            have HRl : Hid (∀ W, Below wr.heap.size wr W → Nodes.Rd W adk (Rnd.keysR L)) := Lib.hid (fun W h => Ints.Rd.below HRk.out h)
            clear HX HO HB HR HTk HTm HKl CG hO5 hrdk HRk hcapk HLk
            generalize Rnd.closeV a2 L = vv at *
            generalize Rnd.closeB L = bb at *
            generalize Rnd.whoR L = uu at *
            generalize Rnd.getR L 64 = g64 at *
            have z1 : (vv == vv) = true := beq_self_eq_true _
            have z2 : (bb == bb) = true := beq_self_eq_true _
            have z3 : (a0 == a0) = true := beq_self_eq_true _
            have z4 : ((j : Int) == (j : Int)) = true := beq_self_eq_true _
            have z5 : ((uu : Int) == (uu : Int)) = true := beq_self_eq_true _
            go_wp2_with fail
            refine (CC.out).mono ?_; rintro e w7 ⟨rfl, hB7⟩
            have H7 := Lib.hid (HLt.out _ _ HZ.out hB7)
            have HB7 := Lib.hid hB7
            clear hB7
            go_wp2_with fail
            refine (CD.out w7 H7.out).mono ?_; rintro e w8 ⟨rfl, hB8⟩
            have H8 := Lib.hid (HLt.out _ _ H7.out hB8)
            have HB8 := Lib.hid (HB7.out.trans (hB8.mono HB7.out.size))
            clear hB8
            go_wp2_with fail
            refine (C64.out w8 H8.out).mono ?_; rintro e w' ⟨rfl, rfl⟩
            go_wp2_with fail
            refine (CNo.out w8 H8.out).mono ?_; rintro e w' ⟨rfl, rfl⟩
            go_wp2_with fail
            refine (CLe.out w8 H8.out).mono ?_; rintro e w' ⟨rfl, rfl⟩
            go_wp2_with fail
            refine (CWh.out w8 H8.out).mono ?_; rintro e w9 ⟨rfl, hB9⟩
            have H9 := Lib.hid (HLt.out _ _ H8.out hB9)
            have HB9 := Lib.hid (HB8.out.trans (hB9.mono HB8.out.size))
            clear hB9
            go_wp2_with fail
            refine (COf.out w9 (HRl.out w9 HB9.out)).mono ?_; rintro e w' ⟨rfl, rfl⟩
            have BE := Lib.hid H9.out.below
            go_wp2_with fail
            refine (C9.out _).mono ?_; rintro e wz ⟨rfl, hB⟩
            have B9 := Lib.hid (BE.out.trans (hB.mono BE.out.size))
            clear hB
            go_wp2_with fail
            go_ret
            exact ⟨rfl, B9.out⟩

    · have d1 : decide ((k : Int) < (len1 : Int)) = false := decide_eq_false (by omega)
      clear HLA CN CL
      generalize wr = w5 at *
      have HOk := Lib.hid HX.out.rr.ok
      have hn64 := HX.out.rr.ok.len
      obtain ⟨m, hm⟩ : ∃ m, L.length = m := ⟨_, rfl⟩
      have HR : Hid (∀ j, j < m → ∃ b off, ad = some ⟨b, off, none⟩ ∧ ∀ W, Below w5.heap.size w5 W → W.cell? ⟨b, off + j * 2, none⟩ = some (.int .i64 (L.getD j default).1) ∧ W.cell? ⟨b, off + j * 2 + 1, none⟩ = some (.int .i64 (L.getD j default).2)) := Lib.hid (fun j hj => HX.out.rs.at (by omega))
      have HTk : Hid (∀ j, j < m → L.take (j + 1) = L.take j ++ [L.getD j default]) := Lib.hid (fun j hj => Rnd.takeR_succ (by omega))
      have HTm : Hid (L.take m = L) := Lib.hid (by rw [← hm]; exact List.take_length)
      have HKl : Hid (∀ j, (Rnd.keysR (L.take j)).length ≤ 64) := Lib.hid (fun j => by rw [Rnd.keysR_len, List.length_take]; omega)
      have CG : Hid (∀ W j, j < m → Below w5.heap.size w5 W → Calls Try.prog 11 #[.pointer (some ⟨g, 0, none⟩), .int .i64 (L.getD j default).1] W fun e w' => e = .returned (.tuple #[.int .i64 (L.getD j default).2, .bool true]) ∧ W = w') := Lib.hid (fun W j hj hW => by
        have hp := Rnd.getD_memR (L := L) (k := j) (by omega)
        have hr := HOk.out.rng _ hp
        have := Rnd.rget_any (x := (L.getD j default).1) (by unfold Rnd.in64; omega) W (HX.out.rr.below hW)
        rwa [Rnd.getR_of_mem HOk.out.nd hp, Rnd.hasR_iff.2 (List.mem_map.2 ⟨_, hp, rfl⟩)] at this)
      rw [hm] at hn64 ⊢
      have HM := Lib.hid hm
      clear hm
      go_wp2_with fail
      go_loopw [13, 15, 16, 17, 69] (fun wv _ _ _ i V => ∃ (j : Nat) (v : Value), v = wv ∧ j ≤ m ∧ i = .int .i64 j ∧ Hid (Ints.OwnL V w5.heap.size v (Rnd.keysR (L.take j))) ∧ Hid (Below w5.heap.size w5 V)) (fun _ _ _ _ i _ => m - (intOf i).toNat)
      case atStart => exact ⟨0, _, rfl, Nat.zero_le _, rfl, Lib.hid (Rnd.own_nil _ _), Lib.hid (Below.refl _ _)⟩
      case round =>
        obtain ⟨j, v, rfl, hj, rfl, HO, HB⟩ := hrel
        by_cases hjm : j < m
        · have d3 : decide ((j : Int) < (m : Int)) = true := decide_eq_true (by omega)
          obtain ⟨b', off', rfl, hcl⟩ := HR.out j hjm
          obtain ⟨c1, c2⟩ := hcl wr HB.out
          have HT1 := Lib.hid (show Rnd.keysR (L.take (j + 1)) = Rnd.keysR (L.take j) ++ [(L.getD j default).1] by rw [HTk.out j hjm, Rnd.keysR_snoc])
          have CG1 := Lib.hid (fun W => CG.out W j hjm)
          have hk64 := HKl.out j
          clear hcl
          generalize L.getD j default = p at *
          obtain ⟨x, d⟩ := p
          simp only at c1 c2 HT1 CG1
          have hsz := HB.out.size
          have hO5 := HO.out
          go_upto_region 15 with fail
          have Q0 : (wr.alloc (.cells #[.int .i64 x, .int .i64 d] 28)).cell? ⟨wr.heap.size, 0, none⟩ = some (.int .i64 x) := (Rw.Blk.new wr _ _).cell 0
          have Q1 : (wr.alloc (.cells #[.int .i64 x, .int .i64 d] 28)).cell? ⟨wr.heap.size, 1, none⟩ = some (.int .i64 d) := (Rw.Blk.new wr _ _).cell 1
          have HOb := hO5.alloc (.cells #[.int .i64 x, .int .i64 d] 28)
          have HBb := Lib.hid (HB.out.alloc hsz (.cells #[.int .i64 x, .int .i64 d] 28))
          have hlt5 : wr.heap.size < (wr.alloc (.cells #[.int .i64 x, .int .i64 d] 28)).heap.size := by simp
          have HNe : Hid (∀ y, v.ownBlock = some y → y ≠ wr.heap.size) := Lib.hid (fun y hy => by have := Rnd.own_lt hO5 hy; omega)
          clear c1 c2 hO5 HO HB hsz
          generalize (wr.alloc (.cells #[.int .i64 x, .int .i64 d] 28)) = wb at *
          generalize wr.heap.size = e at *
          have hszb := HBb.out.size
          have hk65 : (Rnd.keysR (L.take j)).length < 1099511627776 := by omega
          go_wp2_with (at_builtin; refine Rnd.app_oneI rfl _ _ rfl w5.heap.size _ _ rfl HOb x rfl hk65 hszb ?_; intro v' w6 hown' hB' hK' hb'; have hblk := hK' e hlt5 (fun he => HNe.out e he.symm rfl); have q0 : w6.cell? ⟨e, 0, none⟩ = some (.int .i64 x) := (World.cell?_of_block (a := ⟨e, 0, none⟩) hblk).trans Q0; have q1 : w6.cell? ⟨e, 1, none⟩ = some (.int .i64 d) := (World.cell?_of_block (a := ⟨e, 1, none⟩) hblk).trans Q1; clear hblk Q0 Q1 hK' hb')
          have HB6 := Lib.hid (HBb.out.trans hB')
          have HO6 := Lib.hid hown'
          clear hown' hB' HBb HOb
          refine (CG1.out w6 HB6.out).mono ?_; rintro q w7 ⟨rfl, rfl⟩
          have z0 : (d != d) = false := bne_self_eq_false _
          go_wp2_with fail
          go_roundw
          case rel => exact ⟨j + 1, v', rfl, by omega, by go_num, Lib.hid (by rw [HT1.out]; exact HO6.out), HB6⟩
          case measure => simp [intOf]; omega
        · have d3 : decide ((j : Int) < (m : Int)) = false := decide_eq_false (by omega)
          obtain rfl : j = m := by omega
          have hO5 := HO.out
          rw [HTm.out] at hO5
          have HZ := Lib.hid (HX.out.later HB.out)
          obtain ⟨adk, capk, rfl, -⟩ := Own.shape hO5
          obtain ⟨hrdk, -⟩ := Ints.OwnL.rd hO5
          have HRk := Lib.hid hrdk
          have hcapk : (Rnd.keysR L).length ≤ 64 := by rw [Rnd.keysR_len]; exact HOk.out.len
          have HLk := Lib.hid (show (Rnd.keysR L).length = j by rw [Rnd.keysR_len, HM.out])
          have CC := Lib.hid (Rnd.rclose_any a2 wr HZ.out.rr)
          have CD := Lib.hid (fun W (h : Rnd.St w W g a0 mb L ad cap L) => Rnd.rrclose_any a2 ad cap L W h.rs (by rw [HM.out]; omega) (Rnd.vals64 HOk.out))
          have C64 := Lib.hid (fun W (h : Rnd.St w W g a0 mb L ad cap L) => Rnd.rget_any (x := 64) (by unfold Rnd.in64; omega) W h.rr)
          have CNo := Lib.hid (fun W (h : Rnd.St w W g a0 mb L ad cap L) => Rnd.rno_any W h.rr)
          have CLe := Lib.hid (fun W (h : Rnd.St w W g a0 mb L ad cap L) => Rnd.rlen_any W h.rr)
          have CWh := Lib.hid (fun W (h : Rnd.St w W g a0 mb L ad cap L) => Rnd.rwho_any W h.rr)
          have COf : Hid (∀ W, Nodes.Rd W adk (Rnd.keysR L) → Calls Try.prog 17 #[.slice adk j capk] W fun e w' => e = .returned (.int .u64 ((Rnd.whoR L : Nat) : Int)) ∧ W = w') := Lib.hid (fun W h => Nodes.rof_any adk j capk (Rnd.keysR L) W HLk.out (by omega) h)
          rw [Rnd.has64 HOk.out] at C64
          rw [HM.out] at CLe CD
          rw [HLk.out] at ⊢
          have HLt : Hid (∀ W W', Rnd.St w W g a0 mb L ad cap L → Below W.heap.size W W' → Rnd.St w W' g a0 mb L ad cap L) := Lib.hid (fun W W' h hB => h.later hB)
          have HRl : Hid (∀ W, Below wr.heap.size wr W → Nodes.Rd W adk (Rnd.keysR L)) := Lib.hid (fun W h => Ints.Rd.below HRk.out h)
          clear HX HO HB HR HTk HTm HKl CG hO5 hrdk HRk hcapk HLk
          generalize Rnd.closeV a2 L = vv at *
          generalize Rnd.closeB L = bb at *
          generalize Rnd.whoR L = uu at *
          generalize Rnd.getR L 64 = g64 at *
          have z1 : (vv == vv) = true := beq_self_eq_true _
          have z2 : (bb == bb) = true := beq_self_eq_true _
          have z3 : (a0 == a0) = true := beq_self_eq_true _
          have z4 : ((j : Int) == (j : Int)) = true := beq_self_eq_true _
          have z5 : ((uu : Int) == (uu : Int)) = true := beq_self_eq_true _
          go_wp2_with fail
          refine (CC.out).mono ?_; rintro e w7 ⟨rfl, hB7⟩
          have H7 := Lib.hid (HLt.out _ _ HZ.out hB7)
          have HB7 := Lib.hid hB7
          clear hB7
          go_wp2_with fail
          refine (CD.out w7 H7.out).mono ?_; rintro e w8 ⟨rfl, hB8⟩
          have H8 := Lib.hid (HLt.out _ _ H7.out hB8)
          have HB8 := Lib.hid (HB7.out.trans (hB8.mono HB7.out.size))
          clear hB8
          go_wp2_with fail
          refine (C64.out w8 H8.out).mono ?_; rintro e w' ⟨rfl, rfl⟩
          go_wp2_with fail
          refine (CNo.out w8 H8.out).mono ?_; rintro e w' ⟨rfl, rfl⟩
          go_wp2_with fail
          refine (CLe.out w8 H8.out).mono ?_; rintro e w' ⟨rfl, rfl⟩
          go_wp2_with fail
          refine (CWh.out w8 H8.out).mono ?_; rintro e w9 ⟨rfl, hB9⟩
          have H9 := Lib.hid (HLt.out _ _ H8.out hB9)
          have HB9 := Lib.hid (HB8.out.trans (hB9.mono HB8.out.size))
          clear hB9
          go_wp2_with fail
          refine (COf.out w9 (HRl.out w9 HB9.out)).mono ?_; rintro e w' ⟨rfl, rfl⟩
          have BE := Lib.hid H9.out.below
          go_wp2_with fail
          refine (C9.out _).mono ?_; rintro e wz ⟨rfl, hB⟩
          have B9 := Lib.hid (BE.out.trans (hB.mono BE.out.size))
          clear hB
          go_wp2_with fail
          go_ret
          exact ⟨rfl, B9.out⟩



set_option maxRecDepth 100000 in
theorem lifted (os : Os) (started : os.Started) (H : Type) (enc : TypeId × Value → H) :
    ReturnsInHanded {} Try.checked os 3 .any (Rows.roundPlaysSpec.pre6 enc Try.prog Try.f3 Rows.roundPlaysRow.domain false) (Rows.roundPlaysSpec.post enc Try.prog Try.f3 false true false false) := by
  refine returnsInHanded_of_change (C := Try.checked) own started (by kernel_rfl) Try.func3
    (ChangeSpec.witness6 (enc := enc) (C := Try.checked) false ⟨#[], #[.int .i64 0, .slice none 0 0, .int .i64 0], []⟩ 8 (by kernel_rfl) (by kernel_rfl) (by kernel_rfl) (by kernel_rfl)) ?_
  intro W base args ds gs before hval0 hW hcnd _
  have hval : ∀ (j : Nat) t v, Try.f3.params[j]? = some t → args[j]? = some v → Value.okWide Try.prog W .any base t v := hval0
  have hW' := hW
  obtain ⟨p, q, hA0, hV, rfl, hfz, hnd⟩ := hW
  have hA : DataW.TrodAll enc Try.prog W 0 (fun _ => true) true Try.f3.params.toList args.toList ds p := hA0
  rw [Try.params3] at hA hval
  obtain ⟨v0, vs0, d0, ds0, p0, q0, hargs, rfl, rfl, h0, r0⟩ := trodAll_cons hA
  obtain ⟨v1, vs1, d1, ds1, p1, q1, rfl, rfl, rfl, h1, r1⟩ := trodAll_cons r0
  obtain ⟨v2, vs2, d2, ds2, p2, q2, rfl, rfl, rfl, h2, r2⟩ := trodAll_cons r1
  obtain ⟨rfl, rfl, rfl⟩ := trodAll_nil r2
  obtain rfl : args = #[v0, v1, v2] := by cases args; simp_all
  obtain ⟨rfl, rfl⟩ := trodVars_none hV
  obtain ⟨a0, rfl, rfl, rfl, w0⟩ := open_int Try.underlying2 (hval 0 2 v0 rfl rfl) h0
  obtain ⟨a1, len1, cap1, rfl⟩ := okWide_slice Try.underlying22 (hval 1 22 v1 rfl rfl)
  have k1 := h1
  have lt1 : ∀ x ∈ p1, x.block < W.heap.size := by obtain ⟨m, hm⟩ := k1; exact DataW.trod_lt m _ _ _ hm
  obtain ⟨z1, w1⟩ : ∃ zs, Rnd.Rds W W.heap.size a1 len1 cap1 zs := by
    obtain ⟨fuel, hf⟩ := h1
    exact Rnd.open_rds rfl (by simpa [Value.cells] using hf)
  obtain ⟨a2, rfl, rfl, rfl, w2⟩ := open_int Try.underlying3 (hval 2 3 v2 rfl rfl) h2
  clear hA0 hval0
  refine (walk a0 a1 len1 cap1 z1 a2 W w0 w1 w2).mono fun e W' ⟨he, bel⟩ => ?_
  subst he
  exact ⟨_, rfl, _, _, _, [], _, [], hW', trodAll_mk1 (shut_bool Try.underlying4 _), (trodAll_cons_mk (shut_int Try.underlying2 w0) (trodAll_cons_mk (Below.trod laidOut (by kernel_rfl) (of_decide_eq_true (by kernel_rfl)) k1 bel lt1) (trodAll_cons_mk (shut_int Try.underlying3 w2) trodAll_mk0))), rfl, bel.frame _, fun h => by cases h⟩

theorem over : Rows.roundPlaysRow.holds Try.pinned (OpenSpec.ofChange Rows.roundPlaysSpec) :=
  OpenClaim.holds_of_wide 3 Try.f3 rfl rfl rfl rfl rfl rfl rfl ⟨rfl, rfl, rfl, rfl, rfl⟩ rfl rfl rfl rfl rfl (by kernel_rfl) Try.func3 (by kernel_rfl)
    (of_decide_eq_true (by kernel_rfl)) (by unfold Func.isWrapper; first | (rw [if_pos (by decide +kernel)]; kernel_rfl) | (rw [if_neg (by decide +kernel)]; exact ⟨rfl, rfl⟩))
    (fun os started H enc _ => lifted os started H enc)

theorem proved : Rows.RoundPlaysSaid := over
#print axioms proved
end Go.Proofs.Ytcadmepfnafpmaa.lawRoundPlays
