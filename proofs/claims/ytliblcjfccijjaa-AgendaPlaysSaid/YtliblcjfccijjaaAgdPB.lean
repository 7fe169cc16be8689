/- AgendaPlays, walked in declarations (layer 8): add. Made by wip/gen/agp_cut.py. -/
import Derived.Test.YtliblcjfccijjaaAgdPA
namespace Go.Proofs.Ytliblcjfccijjaa.AgdL
open Go.ChangeShapes Go.WideShapes Go.ChangeAt Go.RowKit
open Go.Proofs.Ytliblcjfccijjaa.Rw Go.Proofs.Ytliblcjfccijjaa.Agd
open Go.Proofs.Ytliblcjfccijjaa.AgdR (encW encW_len RdR OwnR aval at2)
set_option linter.unusedVariables false
set_option linter.unusedSimpArgs false
set_option maxRecDepth 1000000 in
set_option maxHeartbeats 8000000 in
theorem way_add (m : Int) (len1 cap1 : Nat) (w : World) (g : Nat) (M : Int) (hM0 : 0 ≤ M ∧ M ≤ 65536) (hll : (len1 : Int) ≤ 9223372036854775807) (e0 k add : Nat) (d : List Th) (ad : Option Addr) (cap : Nat) (b off kd : Nat) (due xv : Int) (q : Nat) (wr : World)
    (hlt : k < len1) (hk60 : k ≤ 60) (hdk : d.length ≤ k) (hak : add ≤ k) (hdM : (d.length : Int) ≤ M) (hP : Hid (Pair w g M add d ad cap e0 wr))
    (HA : Hid (∀ W, Below w.heap.size w W → W.cell? ⟨b, off + k * 3, none⟩ = some (.int .u8 (kd : Nat)) ∧ W.cell? ⟨b, off + k * 3 + 1, none⟩ = some (.int .i64 due) ∧ W.cell? ⟨b, off + k * 3 + 2, none⟩ = some (.int .i64 xv)))
    (hkk : kd < 256) (q0 : wr.cell? ⟨b, off + k * 3, none⟩ = some (.int .u8 (kd : Nat))) (q1 : wr.cell? ⟨b, off + k * 3 + 1, none⟩ = some (.int .i64 due)) (q2 : wr.cell? ⟨b, off + k * 3 + 2, none⟩ = some (.int .i64 xv))
    (hqm : Int.tmod (kd : Int) 4 = (q : Int)) (hq4 : q < 4) (hway : q ≤ 1)
    (u2 u3 u4 u8 u9 u10 u11 u12 u13 u14 u15 u16 u17 u18 u19 u20 u21 u22 u23 u24 u25 u26 u27 u28 u29 u30 u31 u32 u33 u34 u35 u36 u37 u38 u43 u44 u45 u46 u47 u48 u49 u50 u51 u52 u53 u54 u55 u56 u57 u58 u59 u60 u61 u62 u63 u64 u65 u66 u67 u68 u69 u70 u71 u72 u73 u74 u75 u76 u77 u78 u79 u80 u81 u82 u83 u84 u85 u86 u87 u88 u89 u90 u91 u92 u93 u94 u95 u96 u97 u98 u99 u100 u101 u102 u103 u104 u105 u106 u107 u108 u109 u110 u111 u112 u113 u114 u115 u116 u117 u118 u119 u120 u121 u122 u123 u124 u125 u126 u127 u128 u129 u130 u131 u132 u133 u134 u135 u136 u137 u138 u139 u140 u141 u142 u143 u144 u145 u146 u147 u148 u149 u150 u151 u152 u153 u154 u155 u156 u157 u158 u159 u160 u161 u162 u163 u164 u165 u166 u167 u168 u169 u170 u171 u172 u173 u174 u175 u176 u177 u178 u179 u180 u181 u182 u183 u184 u185 u186 u187 u188 u189 u190 u191 u192 u193 u194 u195 u196 u197 u198 u199 u200 u201 u202 u203 u204 u205 u206 u207 : Value) (J K1 : Act → World → Prop) (Q1 : Exit → Act → World → Prop)
    (hJ : ∀ a' w', (∃ v4 v8 v9 v10 v11 v12 v13 v14 v15 v16 v17 v18 v19 v27 v28 v29 v30 v31 v32 v33 v34 v35 v36 v37 v38 v39 v40 v41 v42 v43 v44 v45 v46 v47 v48 v49 v50 v51 v52 v53 v54 v55 v56 v57 v58 v59 v60 v61 v62 v63 v64 v65 v66 v67 v68 v69 v70 v71 v72 v73 v74 v75 v76 v77 v78 v79 v80 v81 v82 v83 v84 v85 v86 v87 v88 v89 v90 v91 v92 v93 v94 v95 v96 v97 v98 v99 v100 v101 v102 v103 v104 v105 v106 v107 v108 v109 v110 v111 v112 v113 v114 v115 v116 v117 v118 v119 v120 v121 v122 v123 v124 v125 v126 v127 v128 v129 v130 v131 v132 v133 v134 v135 v136 v137 v138 v139 v140 v141 v142 v143 v144 v145 v146 v147 v148 v149 v150 v151 v152 v153 v154 v155 : Value, (∃ (add' : Nat) (d' : List Th) (ad' : Option Addr) (cap' : Nat), Hid (Pair w g M add' d' ad' cap' e0 w' ∧ d'.length ≤ k + 1 ∧ add' ≤ k + 1 ∧ (d'.length : Int) ≤ M)) ∧ a' = ⟨List.toArray ((.int .i64 m) :: (.slice (some ⟨b, off, none⟩) len1 cap1) :: u2 :: u3 :: v4 :: (.pointer (some ⟨g, 0, none⟩)) :: (.pointer (some ⟨e0, 0, none⟩)) :: (.int .i64 (k : Nat)) :: v8 :: v9 :: v10 :: v11 :: v12 :: v13 :: v14 :: v15 :: v16 :: v17 :: v18 :: v19 :: u20 :: u21 :: u22 :: u23 :: u24 :: u25 :: u26 :: v27 :: v28 :: v29 :: v30 :: v31 :: v32 :: v33 :: v34 :: v35 :: v36 :: v37 :: v38 :: v39 :: v40 :: v41 :: v42 :: v43 :: v44 :: v45 :: v46 :: v47 :: v48 :: v49 :: v50 :: v51 :: v52 :: v53 :: v54 :: v55 :: v56 :: v57 :: v58 :: v59 :: v60 :: v61 :: v62 :: v63 :: v64 :: v65 :: v66 :: v67 :: v68 :: v69 :: v70 :: v71 :: v72 :: v73 :: v74 :: v75 :: v76 :: v77 :: v78 :: v79 :: v80 :: v81 :: v82 :: v83 :: v84 :: v85 :: v86 :: v87 :: v88 :: v89 :: v90 :: v91 :: v92 :: v93 :: v94 :: v95 :: v96 :: v97 :: v98 :: v99 :: v100 :: v101 :: v102 :: v103 :: v104 :: v105 :: v106 :: v107 :: v108 :: v109 :: v110 :: v111 :: v112 :: v113 :: v114 :: v115 :: v116 :: v117 :: v118 :: v119 :: v120 :: v121 :: v122 :: v123 :: v124 :: v125 :: v126 :: v127 :: v128 :: v129 :: v130 :: v131 :: v132 :: v133 :: v134 :: v135 :: v136 :: v137 :: v138 :: v139 :: v140 :: v141 :: v142 :: v143 :: v144 :: v145 :: v146 :: v147 :: v148 :: v149 :: v150 :: v151 :: v152 :: v153 :: v154 :: v155 :: u156 :: u157 :: u158 :: u159 :: u160 :: u161 :: u162 :: u163 :: u164 :: u165 :: u166 :: u167 :: u168 :: u169 :: u170 :: u171 :: u172 :: u173 :: u174 :: u175 :: u176 :: u177 :: u178 :: u179 :: u180 :: u181 :: u182 :: u183 :: u184 :: u185 :: u186 :: u187 :: u188 :: u189 :: u190 :: u191 :: u192 :: u193 :: u194 :: u195 :: u196 :: u197 :: u198 :: u199 :: u200 :: u201 :: u202 :: u203 :: u204 :: u205 :: u206 :: u207 :: []), []⟩) → J a' w')
    (hK : ∀ a' w', Met J a' w' → K1 a' w') :
    Code.wp Try.prog blk2 (Exit.then K1 Q1) ⟨List.toArray ((.int .i64 m) :: (.slice (some ⟨b, off, none⟩) len1 cap1) :: u2 :: u3 :: u4 :: (.pointer (some ⟨g, 0, none⟩)) :: (.pointer (some ⟨e0, 0, none⟩)) :: (.int .i64 (k : Nat)) :: u8 :: u9 :: u10 :: u11 :: u12 :: u13 :: u14 :: u15 :: u16 :: u17 :: u18 :: u19 :: u20 :: u21 :: u22 :: u23 :: u24 :: u25 :: u26 :: u27 :: u28 :: u29 :: u30 :: u31 :: u32 :: u33 :: u34 :: u35 :: u36 :: u37 :: u38 :: (.pointer (some ⟨b, off + k * 3, none⟩)) :: (.pointer (some ⟨b, off + k * 3, none⟩)) :: (.int .u8 (kd : Nat)) :: (.int .u8 (q : Nat)) :: u43 :: u44 :: u45 :: u46 :: u47 :: u48 :: u49 :: u50 :: u51 :: u52 :: u53 :: u54 :: u55 :: u56 :: u57 :: u58 :: u59 :: u60 :: u61 :: u62 :: u63 :: u64 :: u65 :: u66 :: u67 :: u68 :: u69 :: u70 :: u71 :: u72 :: u73 :: u74 :: u75 :: u76 :: u77 :: u78 :: u79 :: u80 :: u81 :: u82 :: u83 :: u84 :: u85 :: u86 :: u87 :: u88 :: u89 :: u90 :: u91 :: u92 :: u93 :: u94 :: u95 :: u96 :: u97 :: u98 :: u99 :: u100 :: u101 :: u102 :: u103 :: u104 :: u105 :: u106 :: u107 :: u108 :: u109 :: u110 :: u111 :: u112 :: u113 :: u114 :: u115 :: u116 :: u117 :: u118 :: u119 :: u120 :: u121 :: u122 :: u123 :: u124 :: u125 :: u126 :: u127 :: u128 :: u129 :: u130 :: u131 :: u132 :: u133 :: u134 :: u135 :: u136 :: u137 :: u138 :: u139 :: u140 :: u141 :: u142 :: u143 :: u144 :: u145 :: u146 :: u147 :: u148 :: u149 :: u150 :: u151 :: u152 :: u153 :: u154 :: u155 :: u156 :: u157 :: u158 :: u159 :: u160 :: u161 :: u162 :: u163 :: u164 :: u165 :: u166 :: u167 :: u168 :: u169 :: u170 :: u171 :: u172 :: u173 :: u174 :: u175 :: u176 :: u177 :: u178 :: u179 :: u180 :: u181 :: u182 :: u183 :: u184 :: u185 :: u186 :: u187 :: u188 :: u189 :: u190 :: u191 :: u192 :: u193 :: u194 :: u195 :: u196 :: u197 :: u198 :: u199 :: u200 :: u201 :: u202 :: u203 :: u204 :: u205 :: u206 :: u207 :: []), []⟩ wr := by
  conv => arg 2; whnf
  have hcases : q = 0 ∨ q = 1 ∨ q = 2 ∨ q = 3 := by omega
  go_step
  go_step
  go_cut [42, 82] from 27 to 84 (fun v2 v W => v2 = .int .u8 (q : Nat) ∧ v = .bool (decide (q ≤ 1)) ∧ wr = W)
  case first =>
    clear hway
    rcases hcases with rfl | rfl | rfl | rfl <;> (go_wp2_with (fail)) <;> go_meet <;> exact ⟨rfl, rfl, rfl⟩
  case rest =>
    obtain ⟨rfl, rfl, rfl⟩ := hcut
    have hq1 := hway
    rw [decide_eq_true hq1]
    obtain ⟨F, hF⟩ := hP.out
    have HFd : Hid (PairF w g M add d d ad cap e0 wr.drew F) := Lib.hid (hF.below (Below.refl _ _).drew)
    obtain ⟨y0, y1, y2, y3⟩ := hF.cells
    obtain ⟨n2, hn2⟩ : ∃ n2, Hid ((adL M d ⟨due, add, xv⟩).length = n2) := ⟨_, Lib.hid rfl⟩
    have CA := Lib.hid (hF.raddB (W' := wr.drew) (Below.refl _ _).drew ⟨due, add, xv⟩ (by omega) hn2.out)
    simp only at CA
    obtain ⟨okb, hokb⟩ : ∃ okb, Hid (adB M d = okb) := ⟨_, Lib.hid rfl⟩
    obtain ⟨d2, hd2⟩ : ∃ d2, Hid (adL M d ⟨due, add, xv⟩ = d2) := ⟨_, Lib.hid rfl⟩
    rw [hokb.out, hd2.out] at CA
    rw [hd2.out] at hn2
    go_upto_region 18 with fail
    go_cut [8] from 27 to 99 (fun v W => v = .bool okb ∧ ∃ ad2 cap2, Hid (PairF w g M add d d2 ad2 cap2 e0 W F))
    case first =>
      clear HA hqm hq4 hcases
      refine wp_region_noPanic ?_
      go_region_with (go_at_call 30; refine (CA.out).mono ?_; rintro e w3 ⟨ad2, cap2, rfl, hB3, hL3⟩; have hF3 := Lib.hid (HFd.out.below hB3); have HL3 := Lib.hid hL3; obtain ⟨u0, u1, u2, u3⟩ := hF3.out.cells; clear hB3 hL3)
      all_goals
        have hF4 : Hid (PairF w g M add d d2 ad2 cap2 e0 ((w3.setCell ⟨e0, 0, none⟩ (.slice ad2 n2 cap2)).setCell ⟨e0, 1, none⟩ (.int .i64 M)) F) := Lib.hid (hF3.out.storeN HL3.out hn2.out)
        clear u0 u1 u2 u3
        refine NoPanic.normal ?_
        simp only [Act.put, List.getElem_toArray, List.getElem_cons_succ, List.getElem_cons_zero, List.setIfInBounds_toArray, List.set_cons_zero, List.set_cons_succ]
        go_wp2_with fail
        go_meet
        case rel => exact ⟨rfl, ad2, cap2, hF4⟩
    case rest =>
      obtain ⟨rfl, ad2, cap2, hF4⟩ := hcut
      clear CA y0 y1 y2 y3 hF HFd hP hn2
      by_cases hfull : (d.length : Int) ≥ M
      · obtain rfl : d = d2 := by rw [← hd2.out]; exact (if_pos hfull).symm
        obtain rfl : false = okb := by rw [← hokb.out]; simp [adB]; omega
        have hz : M - (d.length : Int) = 0 := by omega
        have hF4d : Hid (PairF w g M add d d ad2 cap2 e0 wc.drew F) := Lib.hid (hF4.out.below (Below.refl _ _).drew)
        have hm4 := hF4.out.made
        obtain ⟨x0, x1, x2⟩ := HA.out wc hm4
        have CG := Lib.hid (add_full due xv g M add d F wc.drew hF4d.out.ag hM0 (by omega) hz)
                
        go_wp2_with fail
        refine wp_region_noPanic ?_
        go_region_held_law (fun W => Below w.heap.size w W ∧ W.cell? ⟨b, off + k * 3, none⟩ = some (.int .u8 (kd : Nat)) ∧ W.cell? ⟨b, off + k * 3 + 1, none⟩ = some (.int .i64 due) ∧ W.cell? ⟨b, off + k * 3 + 2, none⟩ = some (.int .i64 xv)) ((refine ⟨?_, HA.out _ ?_⟩ <;> (first | assumption | exact hm4.drew)))
          ((go_at_call 31; refine (CG.out).mono ?_; rintro e w5 ⟨rfl, hq⟩; have hF5 := Lib.hid (hF4d.out.stay hq); have hm5 := hF5.out.made; clear hq))
        rename_i hHeld
        clear hHeld hm5
        refine NoPanic.normal ?_
        go_wp2_with fail
        go_meet
        case rel => exact ⟨add, d, ad2, cap2, Lib.hid ⟨⟨_, hF5.out⟩, by omega, by omega, hdM⟩⟩
      · have hd3 : Hid (d ++ [(⟨due, add, xv⟩ : Th)] = d2) := Lib.hid (by rw [← hd2.out]; exact (if_neg hfull).symm)
        obtain rfl : true = okb := by rw [← hokb.out]; simp [adB]; omega
        have hz : ¬ (M - (d.length : Int) = 0) := by omega
        have hF4d : Hid (PairF w g M add d d2 ad2 cap2 e0 wc.drew F) := Lib.hid (hF4.out.below (Below.refl _ _).drew)
        have hm4 := hF4.out.made
        obtain ⟨x0, x1, x2⟩ := HA.out wc hm4
        have CG := Lib.hid (add_any due xv g M add d F wc.drew hF4d.out.ag hM0 (by omega) (by omega) hz)
        rw [hd3.out] at CG
        go_wp2_with fail
        refine wp_region_noPanic ?_
        go_region_held_law (fun W => Below w.heap.size w W ∧ W.cell? ⟨b, off + k * 3, none⟩ = some (.int .u8 (kd : Nat)) ∧ W.cell? ⟨b, off + k * 3 + 1, none⟩ = some (.int .i64 due) ∧ W.cell? ⟨b, off + k * 3 + 2, none⟩ = some (.int .i64 xv)) ((refine ⟨?_, HA.out _ ?_⟩ <;> (first | assumption | exact hm4.drew)))
          ((go_at_call 31; refine (CG.out).mono ?_; rintro e w5 ⟨rfl, hq⟩; have hF5 := Lib.hid (hF4d.out.post hq); have hm5 := hF5.out.made; clear hq))
        rename_i hHeld
        clear hHeld hm5
        refine NoPanic.normal ?_
        go_wp2_with fail
        go_meet
        case rel => exact ⟨add + 1, d2, ad2, cap2, Lib.hid ⟨⟨_, hF5.out⟩, by rw [← hd3.out, List.length_append]; simp; omega, by omega, by rw [← hd3.out, List.length_append]; simp; omega⟩⟩
end Go.Proofs.Ytliblcjfccijjaa.AgdL
