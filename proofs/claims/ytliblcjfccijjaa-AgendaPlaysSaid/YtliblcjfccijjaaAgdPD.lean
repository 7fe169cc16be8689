/- AgendaPlays, walked in declarations (layer 8): drain. Made by wip/gen/agp_cut.py. -/
import Derived.Test.YtliblcjfccijjaaAgdPA
namespace Go.Proofs.Ytliblcjfccijjaa.AgdL
open Go.ChangeShapes Go.WideShapes Go.ChangeAt Go.RowKit
open Go.Proofs.Ytliblcjfccijjaa.Rw Go.Proofs.Ytliblcjfccijjaa.Agd
open Go.Proofs.Ytliblcjfccijjaa.AgdR (encW encW_len RdR OwnR aval at2)
set_option linter.unusedVariables false
set_option linter.unusedSimpArgs false
set_option maxRecDepth 1000000 in
set_option maxHeartbeats 8000000 in
theorem way_drain (m : Int) (len1 cap1 : Nat) (w : World) (g : Nat) (M : Int) (hM0 : 0 ≤ M ∧ M ≤ 65536) (hll : (len1 : Int) ≤ 9223372036854775807) (e0 k add : Nat) (d : List Th) (ad : Option Addr) (cap : Nat) (b off kd : Nat) (due xv : Int) (q : Nat) (wr : World)
    (hlt : k < len1) (hk60 : k ≤ 60) (hdk : d.length ≤ k) (hak : add ≤ k) (hdM : (d.length : Int) ≤ M) (hP : Hid (Pair w g M add d ad cap e0 wr))
    (HA : Hid (∀ W, Below w.heap.size w W → W.cell? ⟨b, off + k * 3, none⟩ = some (.int .u8 (kd : Nat)) ∧ W.cell? ⟨b, off + k * 3 + 1, none⟩ = some (.int .i64 due) ∧ W.cell? ⟨b, off + k * 3 + 2, none⟩ = some (.int .i64 xv)))
    (hkk : kd < 256) (q0 : wr.cell? ⟨b, off + k * 3, none⟩ = some (.int .u8 (kd : Nat))) (q1 : wr.cell? ⟨b, off + k * 3 + 1, none⟩ = some (.int .i64 due)) (q2 : wr.cell? ⟨b, off + k * 3 + 2, none⟩ = some (.int .i64 xv))
    (hqm : Int.tmod (kd : Int) 4 = (q : Int)) (hq4 : q < 4) (hway : q = 3)
    (u2 u3 u4 u8 u9 u10 u11 u12 u13 u14 u15 u16 u17 u18 u19 u20 u21 u22 u23 u24 u25 u26 u27 u28 u29 u30 u31 u32 u33 u34 u35 u36 u37 u38 u43 u44 u45 u46 u47 u48 u49 u50 u51 u52 u53 u54 u55 u56 u57 u58 u59 u60 u61 u62 u63 u64 u65 u66 u67 u68 u69 u70 u71 u72 u73 u74 u75 u76 u77 u78 u79 u80 u81 u82 u83 u84 u85 u86 u87 u88 u89 u90 u91 u92 u93 u94 u95 u96 u97 u98 u99 u100 u101 u102 u103 u104 u105 u106 u107 u108 u109 u110 u111 u112 u113 u114 u115 u116 u117 u118 u119 u120 u121 u122 u123 u124 u125 u126 u127 u128 u129 u130 u131 u132 u133 u134 u135 u136 u137 u138 u139 u140 u141 u142 u143 u144 u145 u146 u147 u148 u149 u150 u151 u152 u153 u154 u155 u156 u157 u158 u159 u160 u161 u162 u163 u164 u165 u166 u167 u168 u169 u170 u171 u172 u173 u174 u175 u176 u177 u178 u179 u180 u181 u182 u183 u184 u185 u186 u187 u188 u189 u190 u191 u192 u193 u194 u195 u196 u197 u198 u199 u200 u201 u202 u203 u204 u205 u206 u207 : Value) (J K1 : Act → World → Prop) (Q1 : Exit → Act → World → Prop)
    (hJ : ∀ a' w', (∃ v4 v8 v9 v10 v11 v12 v13 v14 v15 v16 v17 v18 v19 v27 v28 v29 v30 v31 v32 v33 v34 v35 v36 v37 v38 v39 v40 v41 v42 v43 v44 v45 v46 v47 v48 v49 v50 v51 v52 v53 v54 v55 v56 v57 v58 v59 v60 v61 v62 v63 v64 v65 v66 v67 v68 v69 v70 v71 v72 v73 v74 v75 v76 v77 v78 v79 v80 v81 v82 v83 v84 v85 v86 v87 v88 v89 v90 v91 v92 v93 v94 v95 v96 v97 v98 v99 v100 v101 v102 v103 v104 v105 v106 v107 v108 v109 v110 v111 v112 v113 v114 v115 v116 v117 v118 v119 v120 v121 v122 v123 v124 v125 v126 v127 v128 v129 v130 v131 v132 v133 v134 v135 v136 v137 v138 v139 v140 v141 v142 v143 v144 v145 v146 v147 v148 v149 v150 v151 v152 v153 v154 v155 : Value, (∃ (add' : Nat) (d' : List Th) (ad' : Option Addr) (cap' : Nat), Hid (Pair w g M add' d' ad' cap' e0 w' ∧ d'.length ≤ k + 1 ∧ add' ≤ k + 1 ∧ (d'.length : Int) ≤ M)) ∧ a' = ⟨List.toArray ((.int .i64 m) :: (.slice (some ⟨b, off, none⟩) len1 cap1) :: u2 :: u3 :: v4 :: (.pointer (some ⟨g, 0, none⟩)) :: (.pointer (some ⟨e0, 0, none⟩)) :: (.int .i64 (k : Nat)) :: v8 :: v9 :: v10 :: v11 :: v12 :: v13 :: v14 :: v15 :: v16 :: v17 :: v18 :: v19 :: u20 :: u21 :: u22 :: u23 :: u24 :: u25 :: u26 :: v27 :: v28 :: v29 :: v30 :: v31 :: v32 :: v33 :: v34 :: v35 :: v36 :: v37 :: v38 :: v39 :: v40 :: v41 :: v42 :: v43 :: v44 :: v45 :: v46 :: v47 :: v48 :: v49 :: v50 :: v51 :: v52 :: v53 :: v54 :: v55 :: v56 :: v57 :: v58 :: v59 :: v60 :: v61 :: v62 :: v63 :: v64 :: v65 :: v66 :: v67 :: v68 :: v69 :: v70 :: v71 :: v72 :: v73 :: v74 :: v75 :: v76 :: v77 :: v78 :: v79 :: v80 :: v81 :: v82 :: v83 :: v84 :: v85 :: v86 :: v87 :: v88 :: v89 :: v90 :: v91 :: v92 :: v93 :: v94 :: v95 :: v96 :: v97 :: v98 :: v99 :: v100 :: v101 :: v102 :: v103 :: v104 :: v105 :: v106 :: v107 :: v108 :: v109 :: v110 :: v111 :: v112 :: v113 :: v114 :: v115 :: v116 :: v117 :: v118 :: v119 :: v120 :: v121 :: v122 :: v123 :: v124 :: v125 :: v126 :: v127 :: v128 :: v129 :: v130 :: v131 :: v132 :: v133 :: v134 :: v135 :: v136 :: v137 :: v138 :: v139 :: v140 :: v141 :: v142 :: v143 :: v144 :: v145 :: v146 :: v147 :: v148 :: v149 :: v150 :: v151 :: v152 :: v153 :: v154 :: v155 :: u156 :: u157 :: u158 :: u159 :: u160 :: u161 :: u162 :: u163 :: u164 :: u165 :: u166 :: u167 :: u168 :: u169 :: u170 :: u171 :: u172 :: u173 :: u174 :: u175 :: u176 :: u177 :: u178 :: u179 :: u180 :: u181 :: u182 :: u183 :: u184 :: u185 :: u186 :: u187 :: u188 :: u189 :: u190 :: u191 :: u192 :: u193 :: u194 :: u195 :: u196 :: u197 :: u198 :: u199 :: u200 :: u201 :: u202 :: u203 :: u204 :: u205 :: u206 :: u207 :: []), []⟩) → J a' w')
    (hK : ∀ a' w', Met J a' w' → K1 a' w') :
    Code.wp Try.prog blk2 (Exit.then K1 Q1) ⟨List.toArray ((.int .i64 m) :: (.slice (some ⟨b, off, none⟩) len1 cap1) :: u2 :: u3 :: u4 :: (.pointer (some ⟨g, 0, none⟩)) :: (.pointer (some ⟨e0, 0, none⟩)) :: (.int .i64 (k : Nat)) :: u8 :: u9 :: u10 :: u11 :: u12 :: u13 :: u14 :: u15 :: u16 :: u17 :: u18 :: u19 :: u20 :: u21 :: u22 :: u23 :: u24 :: u25 :: u26 :: u27 :: u28 :: u29 :: u30 :: u31 :: u32 :: u33 :: u34 :: u35 :: u36 :: u37 :: u38 :: (.pointer (some ⟨b, off + k * 3, none⟩)) :: (.pointer (some ⟨b, off + k * 3, none⟩)) :: (.int .u8 (kd : Nat)) :: (.int .u8 (q : Nat)) :: u43 :: u44 :: u45 :: u46 :: u47 :: u48 :: u49 :: u50 :: u51 :: u52 :: u53 :: u54 :: u55 :: u56 :: u57 :: u58 :: u59 :: u60 :: u61 :: u62 :: u63 :: u64 :: u65 :: u66 :: u67 :: u68 :: u69 :: u70 :: u71 :: u72 :: u73 :: u74 :: u75 :: u76 :: u77 :: u78 :: u79 :: u80 :: u81 :: u82 :: u83 :: u84 :: u85 :: u86 :: u87 :: u88 :: u89 :: u90 :: u91 :: u92 :: u93 :: u94 :: u95 :: u96 :: u97 :: u98 :: u99 :: u100 :: u101 :: u102 :: u103 :: u104 :: u105 :: u106 :: u107 :: u108 :: u109 :: u110 :: u111 :: u112 :: u113 :: u114 :: u115 :: u116 :: u117 :: u118 :: u119 :: u120 :: u121 :: u122 :: u123 :: u124 :: u125 :: u126 :: u127 :: u128 :: u129 :: u130 :: u131 :: u132 :: u133 :: u134 :: u135 :: u136 :: u137 :: u138 :: u139 :: u140 :: u141 :: u142 :: u143 :: u144 :: u145 :: u146 :: u147 :: u148 :: u149 :: u150 :: u151 :: u152 :: u153 :: u154 :: u155 :: u156 :: u157 :: u158 :: u159 :: u160 :: u161 :: u162 :: u163 :: u164 :: u165 :: u166 :: u167 :: u168 :: u169 :: u170 :: u171 :: u172 :: u173 :: u174 :: u175 :: u176 :: u177 :: u178 :: u179 :: u180 :: u181 :: u182 :: u183 :: u184 :: u185 :: u186 :: u187 :: u188 :: u189 :: u190 :: u191 :: u192 :: u193 :: u194 :: u195 :: u196 :: u197 :: u198 :: u199 :: u200 :: u201 :: u202 :: u203 :: u204 :: u205 :: u206 :: u207 :: []), []⟩ wr := by
  conv => arg 2; whnf
  have hcases : q = 0 ∨ q = 1 ∨ q = 2 ∨ q = 3 := by omega
  go_step
  go_step
  go_cut [42, 82] from 27 to 84 (fun v2 v W => v2 = .int .u8 (q : Nat) ∧ v = .bool (decide (q ≤ 1)) ∧ wr = W)
  case first =>
    clear hway
    rcases hcases with rfl | rfl | rfl | rfl <;> (go_wp2_with (fail)) <;> go_meet <;> exact ⟨rfl, rfl, rfl⟩
  case rest =>
    obtain ⟨rfl, rfl, rfl⟩ := hcut
    have hq1 : ¬ q ≤ 1 := by omega
    rw [decide_eq_false hq1]
    subst hway
    obtain ⟨F, hF⟩ := hP.out
    have CG := Lib.hid (drain_any due g M add d F wr hF.ag (by omega) (fun j hj => (hF.bound j hj).2))
    have hbs : e0 < wr.heap.size := hF.box.lt
    obtain ⟨bs, hbs'⟩ : ∃ bs, Hid (wr.heap.size = bs) := ⟨_, Lib.hid rfl⟩
    obtain ⟨n5, hn5⟩ : ∃ n5, Hid ((DR due d).1.length = n5) := ⟨_, Lib.hid rfl⟩
    obtain ⟨xs, hxs⟩ : ∃ xs, Hid ((DR due d).1.map Th.x = xs) := ⟨_, Lib.hid rfl⟩
    obtain ⟨r5, hr5⟩ : ∃ r5, Hid ((DR due d).2 = r5) := ⟨_, Lib.hid rfl⟩
    have HFa : Hid (∀ w', AgStay g M add (DR due d).2 F wr w' → PairF w g M add (DR due d).2 d ad cap e0 w' F) := Lib.hid (fun w' hq => hF.stay hq)
    unfold DrainPost at CG
    rw [hbs'.out, hn5.out, hxs.out, hr5.out] at CG
    rw [hr5.out] at HFa
    rw [hbs'.out] at hbs
    have hdr : r5.length ≤ d.length := by
      have := (DR_perm due d).length_eq
      rw [List.length_append, hr5.out] at this
      omega
    have hxl : xs.length = n5 := by rw [← hxs.out, List.length_map, hn5.out]
    clear hF hP
    go_wp2_with fail
    refine (CG.out).mono ?_; rintro e w2 ⟨ad5, cap5, rfl, ho5, hq⟩
    have HF2 := Lib.hid (HFa.out w2 hq)
    have HO2 := Lib.hid ho5
    have hcap5 : n5 ≤ cap5 ∧ cap5 ≤ 9223372036854775807 := by
      have hp := ho5.pos
      have h2 := hp.2.1
      unfold maxLen at h2
      rw [hxl] at hp
      exact ⟨hp.1, by omega⟩
    clear hq CG HFa q0 q1 q2 ho5
    go_wp2_with fail
    go_loopw [16] (fun kk wr => ∃ (pre l2 : List Th) (adl : Option Addr) (capl : Nat), kk = .int .i64 pre.length ∧ l2.length + pre.length ≤ d.length ∧ Hid (pre ++ (DR due l2).1 = (DR due d).1 ∧ (DR due l2).2 = (DR due d).2 ∧ PairF w g M add r5 l2 adl capl e0 wr F ∧ OwnI wr bs (.slice ad5 n5 cap5) xs)) (fun kk _ => 100000 - (intOf kk).toNat)
    case atStart => exact ⟨[], d, ad, cap, rfl, by simp, Lib.hid ⟨rfl, rfl, HF2.out, HO2.out⟩⟩
    case round =>
      obtain ⟨pre, l2, adl, capl, rfl, hpl, hI⟩ := hrel
      obtain ⟨i1, i2, hPl, hOl⟩ := hI.out
      have HPl := Lib.hid hPl
      have HOl := Lib.hid hOl
      have hstep := drain_step i1 i2
      rw [hn5.out, hxs.out, hr5.out] at hstep
      have HS := Lib.hid hstep
      have HI1 := Lib.hid i1
      have htl := tl_len l2 due
      clear hI i1 i2 hPl hOl hstep
      obtain ⟨n2, hn2⟩ : ∃ n2, Hid ((tl l2 due).length = n2) := ⟨_, Lib.hid rfl⟩
      have CT : Hid (∀ W, Below wr.heap.size wr W → Calls Try.prog 33 #[.agg #[.slice adl l2.length capl, .int .i64 M], .int .i64 due] W fun z w' => ∃ ad2 cap2, z = .returned (.tuple #[.agg #[.slice ad2 n2 cap2, .int .i64 M], .int .i64 (tx l2 due), .bool (can l2 due)]) ∧ Below W.heap.size W w' ∧ Lst F e0 w' (tl l2 due) ad2 cap2 ∧ ∀ x, ad2 = some x → x.block < wr.heap.size ∨ W.heap.size ≤ x.block) := Lib.hid (fun W hW => HPl.out.rtake hW due (by omega) hn2.out)
      have HC : Hid (∀ W, Below wr.heap.size wr W → (W.cell? ⟨e0, 0, none⟩ = some (.slice adl l2.length capl) ∧ W.cell? ⟨e0, 1, none⟩ = some (.int .i64 M)) ∧ W.cell? ⟨b, off + k * 3, none⟩ = some (.int .u8 (kd : Nat)) ∧ W.cell? ⟨b, off + k * 3 + 1, none⟩ = some (.int .i64 due) ∧ W.cell? ⟨b, off + k * 3 + 2, none⟩ = some (.int .i64 xv)) := Lib.hid (fun W hW => by
        have h1 := HPl.out.below hW
        exact ⟨⟨h1.cells.1, h1.cells.2.1⟩, HA.out W h1.made⟩)
      have L0 : Hid (Below wr.heap.size wr wr.drew) := Lib.hid (Below.refl _ _).drew
      have L1 : Hid (∀ o, Below wr.heap.size wr (wr.alloc o).drew) := Lib.hid (fun o => (AgdR.box_below wr o).drew)
      have LB : Hid (∀ w3, Below (wr.alloc (.cells #[.slice none 0 0, .int .i64 0] 57)).drew.heap.size (wr.alloc (.cells #[.slice none 0 0, .int .i64 0] 57)).drew w3 → Blk w3 wr.heap.size 57 #[.slice none 0 0, .int .i64 0]) := Lib.hid (fun w3 h => Blk.below (w := (wr.alloc (.cells #[.slice none 0 0, .int .i64 0] 57)).drew) (Blk.new wr _ _) h)
      have L3 : Hid (∀ W, Below wr.heap.size wr W → ∀ o, Below wr.heap.size wr (W.alloc o)) := Lib.hid (fun W hW o => hW.alloc hW.size o)
      have L4 : Hid (∀ W, Below wr.heap.size wr W → ∀ u u', Below wr.heap.size wr ((W.setCell ⟨wr.heap.size, 0, none⟩ u).setCell ⟨wr.heap.size, 1, none⟩ u')) := Lib.hid (fun W hW u u' => (hW.setCell (p := ⟨wr.heap.size, 0, none⟩) (Nat.le_refl _) _).setCell (p := ⟨wr.heap.size, 1, none⟩) (Nat.le_refl _) _)
      obtain ⟨⟨y0, y1⟩, z0, z1, z2⟩ := HC.out wr (Below.refl _ _)
      go_upto_region 7 with fail
      go_cut [17, 18, 19] from 50 to 60 (fun v12 v13 v14 W => ∃ (nb : Nat) (ad2 : Option Addr) (cap2 : Nat), v12 = .pointer (some ⟨nb, 0, none⟩) ∧ v13 = .int .i64 (tx l2 due) ∧ v14 = .bool (can l2 due) ∧ Hid (Held w g M add r5 l2 adl capl e0 F wr (tl l2 due) ad2 cap2 n2 nb W))
      case first =>
        refine wp_region_noPanic ?_
        go_region_held_law (fun W => Below wr.heap.size wr W ∧ (W.cell? ⟨e0, 0, none⟩ = some (.slice adl l2.length capl) ∧ W.cell? ⟨e0, 1, none⟩ = some (.int .i64 M)) ∧ W.cell? ⟨b, off + k * 3, none⟩ = some (.int .u8 (kd : Nat)) ∧ W.cell? ⟨b, off + k * 3 + 1, none⟩ = some (.int .i64 due) ∧ W.cell? ⟨b, off + k * 3 + 2, none⟩ = some (.int .i64 xv)) ((refine ⟨?_, HC.out _ ?_⟩ <;> (first | assumption | exact L0.out | exact L1.out _ | exact L3.out _ (by assumption) _ | exact L4.out _ (by assumption) _ _)))
          (first
            | (go_at_call 33; refine (CT.out _ L0.out).mono ?_; rintro e w3 ⟨ad2, cap2, rfl, hB3, hL3, -⟩; have hS3 : Below wr.heap.size wr w3 := L0.out.trans hB3; have HH := Lib.hid (Held.late HPl.out hS3 hL3 hn2.out); clear hB3 hL3)
            | (go_at_call 33; refine (CT.out _ (L1.out _)).mono ?_; rintro e w3 ⟨ad2, cap2, rfl, hB3, hL3, hx3⟩; have hS3 : Below wr.heap.size wr w3 := (L1.out _).trans (hB3.mono (L1.out _).size); have hb3 := LB.out w3 hB3; have HH := Lib.hid (Held.early HPl.out hS3 hb3 hL3 hn2.out (fun x hx => by have hx' := hx3 x hx; simp at hx'; omega)); have u0 : w3.cell? ⟨wr.heap.size, 0, none⟩ = some (.slice none 0 0) := hb3.cell 0; have u1 : w3.cell? ⟨wr.heap.size, 1, none⟩ = some (.int .i64 0) := hb3.cell 1; have u2 := hb3.free 0; have u3 := hb3.free 1; clear hB3 hL3 hx3 hb3))
        all_goals
          rename_i hHeld
          clear hHeld
          refine NoPanic.normal ?_
          go_wp2_with fail
          go_meet
          case rel => exact ⟨_, ad2, cap2, rfl, rfl, rfl, HH⟩
      case rest =>
        obtain ⟨nb, ad2, cap2, rfl, rfl, rfl, HH⟩ := hcut
        clear CT HC L0 L1 LB L3 L4 y0 y1 z0 z1 z2
        obtain ⟨⟨r0, r1⟩, y0, y1, y2, y3⟩ := HH.out.cells
        cases hcv : can l2 due with
        | false =>
          obtain ⟨s1, s2⟩ := HS.out.1 hcv
          have HZ : Hid (Pair w g M add r5 adl capl e0 wc) := Lib.hid ⟨F, by have := HH.out.pair; rw [s2] at this; exact this⟩
          generalize tx l2 due = tv at *
          have hs1 : (pre.length : Int) = (n5 : Int) := by rw [s1]
          rw [s1]
          clear HH HS HI1 HOl HO2 HF2 HPl hcv s1 s2
          go_wp2_with fail
          go_meet
          case rel => exact ⟨add, r5, adl, capl, Lib.hid ⟨HZ.out, by omega, by omega, by omega⟩⟩
        | true =>
          obtain ⟨s1, s2, s3, s4, s5⟩ := HS.out.2 hcv
          have HZ := Lib.hid HH.out.store
          have hoc : OwnI wc bs (.slice ad5 n5 cap5) xs := HOl.out.below HH.out.below
          have hoz := own_box (e := e0) hoc hbs (.slice ad2 n2 cap2) (.int .i64 M)
          have HOZ := Lib.hid hoz
          obtain ⟨db, rfl, x5, -⟩ := own_cell hoz (i := pre.length) (by rw [hxl]; exact s1)
          rw [s2] at x5
          have HREL : Hid (tl l2 due = tl l2 due ∧ (tl l2 due).length + (pre ++ [Agd.hd l2]).length ≤ d.length ∧ (pre ++ [Agd.hd l2]) ++ (DR due (tl l2 due)).1 = (DR due d).1 ∧ (DR due (tl l2 due)).2 = (DR due d).2) := Lib.hid ⟨rfl, by rw [List.length_append, List.length_singleton]; omega, s3, by rw [s4]; exact hr5.out.symm⟩
          have hpx : (pre ++ [Agd.hd l2]).length = pre.length + 1 := by simp
          have HPX := Lib.hid hpx
          generalize tx l2 due = tv at *
          have s1' : ¬ ((pre.length : Int) ≥ (n5 : Int)) := by omega
          clear HH HS HI1 HOl HO2 HF2 HPl hcv hoc hoz hpx s2 s3 s4
          go_upto_region 10 with fail
          generalize (wc.setCell ⟨e0, 0, none⟩ (.slice ad2 n2 cap2)).setCell ⟨e0, 1, none⟩ (.int .i64 M) = w6 at *
          go_wp2_with fail
          go_roundw
          case rel => exact ⟨pre ++ [Agd.hd l2], tl l2 due, ad2, cap2, by rw [HPX.out]; go_num, HREL.out.2.1, Lib.hid ⟨HREL.out.2.2.1, HREL.out.2.2.2, HZ.out, HOZ.out⟩⟩
          case measure => simp [intOf]; omega
end Go.Proofs.Ytliblcjfccijjaa.AgdL
