/-
  MsgWrites: PutUint.
  MsgWrites: PutText.
  MsgWrites: PutInts.
  MsgWrites: PutFloats.
  MsgWrites: the document's fields, one by one, and what Bytes tells.
-/
import Derived.Test.YtbkcklefkhlciaaMwy
import Derived.Deep.CutRange
import Derived.Deep.CutBlock
namespace Go.Proofs.Ytbkcklefkhlciaa
open Go.RowKit
set_option linter.unusedVariables false
/-- A part of a code. -/
def pick : List Nat → Code → Code
  | [], c => c
  | 0 :: p, .seq a _ => pick p a
  | 1 :: p, .seq _ b => pick p b
  | 0 :: p, .cond _ a _ => pick p a
  | 1 :: p, .cond _ _ b => pick p b
  | 2 :: p, .block _ c => pick p c
  | 2 :: p, .loop c => pick p c
  | _, c => c
noncomputable def wrSwitch : Code := pick [1, 1, 1, 1, 1, 1, 1, 0, 1, 2, 2, 1, 0, 2, 1, 1, 1, 1, 0, 1] (Try.f3.body.getD .skip)
noncomputable def wrTail : Code := pick [1, 1, 1, 1, 1, 1, 1, 0, 1, 2, 2, 1, 0, 2, 1, 1, 1, 1, 1] (Try.f3.body.getD .skip)
set_option maxRecDepth 1000000 in
set_option maxHeartbeats 8000000 in
theorem wr_k1 (Q : Exit → Act → World → Prop) (m x : Nat) (w WA : World) (o : OpI) (st : Sta) (cur nl np ns : Nat) (hle : w.heap.size ≤ m) (hmA : m ≤ WA.heap.size) (hxm : m ≤ x) (hxA : x < WA.heap.size) (hnl3 : nl ≤ 3000) (hnp3 : np ≤ 7500) (hns3 : ns ≤ 1500) (Hnl : Hid (o.l.length = nl)) (Hnp : Hid (o.p.length = np)) (Hns : Hid (o.s.length = ns)) (Hoo : Hid o.ok) (Hcost : Hid (o.cost ≤ 30000)) (Hcur : Hid (cur ≤ 30000)) (hZ : Hid (Sz cur st)) (Hlw : Hid (o.lies w)) (XA : Hid (BoxO WA x o)) (SA : Hid (St m m WA st)) (AwX : Hid (Aw m WA x)) (BA : Hid (Below w.heap.size w WA)) (LA_ : Hid (o.lies WA)) (HPs : Hid (Fit st)) (hk1 : o.kind = 1)
    (t0 t1 t2 t3 t4 t5 t7 t8 t9 t14 t15 t16 t17 t18 t19 t20 t21 t22 t23 t24 t25 t26 t27 t28 t29 t30 t31 t32 t33 t34 t35 t36 t37 t38 t39 t40 t41 t42 t43 t44 t45 t46 t47 t48 t49 t50 t51 t52 t53 t54 t55 t56 t57 t58 t59 t60 t61 t62 t63 t64 t65 t66 t67 t68 t69 t70 t71 t72 t73 t74 t75 t76 t77 t78 t79 t80 t81 t82 t83 t84 t85 t86 t87 t88 t89 t90 t91 t92 t93 t94 t95 t96 t97 t98 t99 t100 t101 t102 t103 t105 t106 t107 t108 t109 t110 t111 t112 t113 t114 t115 t116 t117 t118 t119 t120 t121 t122 t123 t124 t125 t126 t127 t128 t129 t130 t131 t132 t133 t134 t135 t136 t137 t138 t139 t140 t141 t142 t143 t144 t145 t146 t147 t148 t149 t150 t151 t152 t153 t154 t155 t156 t157 t158 t159 t160 t161 t162 t163 t164 t165 t166 t167 t168 t169 t170 t171 t172 t173 t174 t175 t176 t177 t178 t179 t180 t181 t182 t183 t184 t185 t186 t187 t188 t189 t190 t191 t192 t193 t194 t195 t196 t197 t198 t199 t200 t201 t202 t203 t204 t205 t206 t207 t208 t209 t210 t211 t212 t213 t214 t215 t216 t217 t218 t219 t220 t221 t222 t223 t224 t225 t226 t227 t228 t229 t230 t231 t232 t233 t234 t235 t236 t237 t238 t239 t240 t241 t242 t243 t244 t245 t246 t247 t248 t249 t250 t251 t252 t253 t254 t255 t256 t257 t258 t259 t260 t261 t262 t263 t264 t265 t266 t267 t268 t269 t270 t271 t272 t273 t274 t275 t276 t277 t278 t279 t280 t281 t282 t283 t284 t285 t286 t287 t288 t289 t290 t291 t292 t293 t294 t295 t296 t297 t298 t299 t300 : Value)
    (hmeet : ∀ (fs : Value) (v14 v15 v16 v17 v18 v19 v20 v21 v104 v105 v106 v107 v108 v109 v110 v111 v112 v113 v114 v115 v116 v117 v118 v119 v120 v121 v122 v123 v124 v125 v126 v127 v128 v129 v130 v131 v132 v133 v134 v135 v136 v137 v138 v139 v140 v141 v142 v143 v144 v145 v146 v147 v148 v149 v150 v151 v152 v153 v154 v155 v156 v157 v158 v159 v160 v161 v162 v163 v164 v165 v166 v167 v168 v169 v170 v171 v172 v173 v174 v175 v176 v177 v178 v179 v180 v181 v182 v183 v184 v185 v186 v187 v188 v189 v190 v191 v192 v193 v194 v195 v196 v197 v198 v199 v200 v201 v202 v203 v204 v205 v206 v207 v208 v209 v210 v211 v212 v213 v214 v215 v216 v217 v218 v219 v220 v221 v222 v223 v224 v225 v226 v227 v228 v229 v230 v231 v232 v233 v234 v235 v236 v237 v238 v239 v240 v241 v242 v243 : Value) (W' : World), Hid (MeetIs m w W' o st fs) → Q .normal { tmps := #[t0, t1, t2, t3, t4, t5, .pointer (some ⟨m, 0, none⟩), t7, t8, t9, .pointer (some ⟨x, 0, none⟩), .pointer (some ⟨m, 0, none⟩), fs, .bool o.wide, v14, v15, v16, v17, v18, v19, v20, v21, t22, t23, t24, t25, t26, t27, t28, t29, t30, t31, t32, t33, t34, t35, t36, t37, t38, t39, t40, t41, t42, t43, t44, t45, t46, t47, t48, t49, t50, t51, t52, t53, t54, t55, t56, t57, t58, t59, t60, t61, t62, t63, t64, t65, t66, t67, t68, t69, t70, t71, t72, t73, t74, t75, t76, t77, t78, t79, t80, t81, t82, t83, t84, t85, t86, t87, t88, t89, t90, t91, t92, t93, t94, t95, t96, t97, t98, t99, t100, t101, t102, t103, v104, v105, v106, v107, v108, v109, v110, v111, v112, v113, v114, v115, v116, v117, v118, v119, v120, v121, v122, v123, v124, v125, v126, v127, v128, v129, v130, v131, v132, v133, v134, v135, v136, v137, v138, v139, v140, v141, v142, v143, v144, v145, v146, v147, v148, v149, v150, v151, v152, v153, v154, v155, v156, v157, v158, v159, v160, v161, v162, v163, v164, v165, v166, v167, v168, v169, v170, v171, v172, v173, v174, v175, v176, v177, v178, v179, v180, v181, v182, v183, v184, v185, v186, v187, v188, v189, v190, v191, v192, v193, v194, v195, v196, v197, v198, v199, v200, v201, v202, v203, v204, v205, v206, v207, v208, v209, v210, v211, v212, v213, v214, v215, v216, v217, v218, v219, v220, v221, v222, v223, v224, v225, v226, v227, v228, v229, v230, v231, v232, v233, v234, v235, v236, v237, v238, v239, v240, v241, v242, v243, t244, t245, t246, t247, t248, t249, t250, t251, t252, t253, t254, t255, t256, t257, t258, t259, t260, t261, t262, t263, t264, t265, t266, t267, t268, t269, t270, t271, t272, t273, t274, t275, t276, t277, t278, t279, t280, t281, t282, t283, t284, t285, t286, t287, t288, t289, t290, t291, t292, t293, t294, t295, t296, t297, t298, t299, t300], defers := [] } W') :
    Code.wp Try.prog wrSwitch Q { tmps := #[t0, t1, t2, t3, t4, t5, .pointer (some ⟨m, 0, none⟩), t7, t8, t9, .pointer (some ⟨x, 0, none⟩), .pointer none, .slice none 0 0, .bool false, t14, t15, t16, t17, t18, t19, t20, t21, t22, t23, t24, t25, t26, t27, t28, t29, t30, t31, t32, t33, t34, t35, t36, t37, t38, t39, t40, t41, t42, t43, t44, t45, t46, t47, t48, t49, t50, t51, t52, t53, t54, t55, t56, t57, t58, t59, t60, t61, t62, t63, t64, t65, t66, t67, t68, t69, t70, t71, t72, t73, t74, t75, t76, t77, t78, t79, t80, t81, t82, t83, t84, t85, t86, t87, t88, t89, t90, t91, t92, t93, t94, t95, t96, t97, t98, t99, t100, t101, t102, t103, .int .i64 o.kind, t105, t106, t107, t108, t109, t110, t111, t112, t113, t114, t115, t116, t117, t118, t119, t120, t121, t122, t123, t124, t125, t126, t127, t128, t129, t130, t131, t132, t133, t134, t135, t136, t137, t138, t139, t140, t141, t142, t143, t144, t145, t146, t147, t148, t149, t150, t151, t152, t153, t154, t155, t156, t157, t158, t159, t160, t161, t162, t163, t164, t165, t166, t167, t168, t169, t170, t171, t172, t173, t174, t175, t176, t177, t178, t179, t180, t181, t182, t183, t184, t185, t186, t187, t188, t189, t190, t191, t192, t193, t194, t195, t196, t197, t198, t199, t200, t201, t202, t203, t204, t205, t206, t207, t208, t209, t210, t211, t212, t213, t214, t215, t216, t217, t218, t219, t220, t221, t222, t223, t224, t225, t226, t227, t228, t229, t230, t231, t232, t233, t234, t235, t236, t237, t238, t239, t240, t241, t242, t243, t244, t245, t246, t247, t248, t249, t250, t251, t252, t253, t254, t255, t256, t257, t258, t259, t260, t261, t262, t263, t264, t265, t266, t267, t268, t269, t270, t271, t272, t273, t274, t275, t276, t277, t278, t279, t280, t281, t282, t283, t284, t285, t286, t287, t288, t289, t290, t291, t292, t293, t294, t295, t296, t297, t298, t299, t300], defers := [] } WA := by
  conv => arg 2; whnf
  have XC := XA.out.cells
  rw [Hns.out, Hnl.out, Hnp.out] at XC
  obtain ⟨xc0, xc1, xc2, xc3, xc4, xc5⟩ := XC
  have ek1 : (o.kind == 1) = true := by rw [hk1]; rfl
  have HP := Lib.hid (putuint_st m m st o.num o.v WA hmA SA.out HPs.out Hoo.out.v)
  have Hfs : Hid (o.fields = [⟨0, o.v, ⟨#[]⟩⟩] ∧ o.wide = false) := Lib.hid (by unfold OpI.fields OpI.wide; rw [if_pos hk1, if_pos hk1]; exact ⟨rfl, rfl⟩)
  have Hnx : Hid (o.next st = addS o.num st [fF o.num 0 o.v ⟨#[]⟩]) := Lib.hid (by unfold OpI.next; rw [Hfs.out.2, Hfs.out.1]; rfl)
  go_wp2_with fail
  refine HP.out.mono ?_
  rintro e w4 ⟨rfl, hS4, hb4, hf4⟩
  have X4 := blk_fr XA.out AwX.out hf4
  have XC4 := BoxO.cells (o := o) X4
  rw [Hns.out, Hnl.out, Hnp.out] at XC4
  obtain ⟨yc0, yc1, yc2, yc3, yc4, yc5⟩ := XC4
  have S4 : Hid (St m m w4 (o.next st)) := Lib.hid (by rw [Hnx.out]; exact hS4)
  have B4 : Hid (Below w.heap.size w w4) := Lib.hid (BA.out.trans (hb4.mono hle))
  have hm4 : m ≤ w4.heap.size := Nat.le_trans hmA hb4.size
  clear hS4 hb4 hf4 X4 HP Hnx xc0 xc1 xc2 xc3 xc4 xc5
  go_wp2_with (at_builtin; refine push_rg rfl (.tmp 161) (.tmp 167) rfl w4.heap.size _ _ o.num [] ⟨0, o.v, ⟨#[]⟩⟩ _ rfl rfl (World.ownsRow_nil _ _ _ _) (Nat.le_refl _) _ rfl rfl (by simp) ?_)
  intro v' W5 own5 b5
  obtain ⟨va, vn, vc, rfl⟩ := slice_of own5
  have HM : Hid (MeetIs m w W5 o st (.slice va vn vc)) := Lib.hid (by
    obtain ⟨fa, fc, hv⟩ : ∃ fa fc, Value.slice va vn vc = .slice fa 1 fc := by
      rcases own5.2 with ⟨_, hn0⟩ | ⟨g, cap, cur, hv, _⟩
      · simp at hn0
      · exact ⟨_, _, hv⟩
    cases hv
    refine ⟨⟨_, _, by rw [Hfs.out.1]; rfl, by rw [Hfs.out.1]; exact rrow_own own5 rfl⟩, S4.out.below b5, B4.out.trans (b5.mono B4.out.size), Nat.le_trans hm4 b5.size⟩)
  clear own5 b5 S4 B4 yc0 yc1 yc2 yc3 yc4 yc5
  go_wp2_with fail
  have hwd := Hfs.out.2
  rw [hwd] at hmeet
  exact hmeet _ _ _ _ _ _ _ _ _ _ _ _ _ _ _ _ _ _ _ _ _ _ _ _ _ _ _ _ _ _ _ _ _ _ _ _ _ _ _ _ _ _ _ _ _ _ _ _ _ _ _ _ _ _ _ _ _ _ _ _ _ _ _ _ _ _ _ _ _ _ _ _ _ _ _ _ _ _ _ _ _ _ _ _ _ _ _ _ _ _ _ _ _ _ _ _ _ _ _ _ _ _ _ _ _ _ _ _ _ _ _ _ _ _ _ _ _ _ _ _ _ _ _ _ _ _ _ _ _ _ _ _ _ _ _ _ _ _ _ _ _ _ _ _ _ _ _ _ _ _ HM
end Go.Proofs.Ytbkcklefkhlciaa
namespace Go.Proofs.Ytbkcklefkhlciaa
open Go.RowKit
set_option linter.unusedVariables false
set_option maxRecDepth 1000000 in
set_option maxHeartbeats 8000000 in
theorem wr_k2 (Q : Exit → Act → World → Prop) (m x : Nat) (w WA : World) (o : OpI) (st : Sta) (cur nl np ns : Nat) (hle : w.heap.size ≤ m) (hmA : m ≤ WA.heap.size) (hxm : m ≤ x) (hxA : x < WA.heap.size) (hnl3 : nl ≤ 3000) (hnp3 : np ≤ 7500) (hns3 : ns ≤ 1500) (Hnl : Hid (o.l.length = nl)) (Hnp : Hid (o.p.length = np)) (Hns : Hid (o.s.length = ns)) (Hoo : Hid o.ok) (Hcost : Hid (o.cost ≤ 30000)) (Hcur : Hid (cur ≤ 30000)) (hZ : Hid (Sz cur st)) (Hlw : Hid (o.lies w)) (XA : Hid (BoxO WA x o)) (SA : Hid (St m m WA st)) (AwX : Hid (Aw m WA x)) (BA : Hid (Below w.heap.size w WA)) (LA_ : Hid (o.lies WA)) (HPs : Hid (Fit st)) (hk1 : ¬ o.kind = 1) (hk2 : o.kind = 2)
    (t0 t1 t2 t3 t4 t5 t7 t8 t9 t14 t15 t16 t17 t18 t19 t20 t21 t22 t23 t24 t25 t26 t27 t28 t29 t30 t31 t32 t33 t34 t35 t36 t37 t38 t39 t40 t41 t42 t43 t44 t45 t46 t47 t48 t49 t50 t51 t52 t53 t54 t55 t56 t57 t58 t59 t60 t61 t62 t63 t64 t65 t66 t67 t68 t69 t70 t71 t72 t73 t74 t75 t76 t77 t78 t79 t80 t81 t82 t83 t84 t85 t86 t87 t88 t89 t90 t91 t92 t93 t94 t95 t96 t97 t98 t99 t100 t101 t102 t103 t105 t106 t107 t108 t109 t110 t111 t112 t113 t114 t115 t116 t117 t118 t119 t120 t121 t122 t123 t124 t125 t126 t127 t128 t129 t130 t131 t132 t133 t134 t135 t136 t137 t138 t139 t140 t141 t142 t143 t144 t145 t146 t147 t148 t149 t150 t151 t152 t153 t154 t155 t156 t157 t158 t159 t160 t161 t162 t163 t164 t165 t166 t167 t168 t169 t170 t171 t172 t173 t174 t175 t176 t177 t178 t179 t180 t181 t182 t183 t184 t185 t186 t187 t188 t189 t190 t191 t192 t193 t194 t195 t196 t197 t198 t199 t200 t201 t202 t203 t204 t205 t206 t207 t208 t209 t210 t211 t212 t213 t214 t215 t216 t217 t218 t219 t220 t221 t222 t223 t224 t225 t226 t227 t228 t229 t230 t231 t232 t233 t234 t235 t236 t237 t238 t239 t240 t241 t242 t243 t244 t245 t246 t247 t248 t249 t250 t251 t252 t253 t254 t255 t256 t257 t258 t259 t260 t261 t262 t263 t264 t265 t266 t267 t268 t269 t270 t271 t272 t273 t274 t275 t276 t277 t278 t279 t280 t281 t282 t283 t284 t285 t286 t287 t288 t289 t290 t291 t292 t293 t294 t295 t296 t297 t298 t299 t300 : Value)
    (hmeet : ∀ (fs : Value) (v14 v15 v16 v17 v18 v19 v20 v21 v104 v105 v106 v107 v108 v109 v110 v111 v112 v113 v114 v115 v116 v117 v118 v119 v120 v121 v122 v123 v124 v125 v126 v127 v128 v129 v130 v131 v132 v133 v134 v135 v136 v137 v138 v139 v140 v141 v142 v143 v144 v145 v146 v147 v148 v149 v150 v151 v152 v153 v154 v155 v156 v157 v158 v159 v160 v161 v162 v163 v164 v165 v166 v167 v168 v169 v170 v171 v172 v173 v174 v175 v176 v177 v178 v179 v180 v181 v182 v183 v184 v185 v186 v187 v188 v189 v190 v191 v192 v193 v194 v195 v196 v197 v198 v199 v200 v201 v202 v203 v204 v205 v206 v207 v208 v209 v210 v211 v212 v213 v214 v215 v216 v217 v218 v219 v220 v221 v222 v223 v224 v225 v226 v227 v228 v229 v230 v231 v232 v233 v234 v235 v236 v237 v238 v239 v240 v241 v242 v243 : Value) (W' : World), Hid (MeetIs m w W' o st fs) → Q .normal { tmps := #[t0, t1, t2, t3, t4, t5, .pointer (some ⟨m, 0, none⟩), t7, t8, t9, .pointer (some ⟨x, 0, none⟩), .pointer (some ⟨m, 0, none⟩), fs, .bool o.wide, v14, v15, v16, v17, v18, v19, v20, v21, t22, t23, t24, t25, t26, t27, t28, t29, t30, t31, t32, t33, t34, t35, t36, t37, t38, t39, t40, t41, t42, t43, t44, t45, t46, t47, t48, t49, t50, t51, t52, t53, t54, t55, t56, t57, t58, t59, t60, t61, t62, t63, t64, t65, t66, t67, t68, t69, t70, t71, t72, t73, t74, t75, t76, t77, t78, t79, t80, t81, t82, t83, t84, t85, t86, t87, t88, t89, t90, t91, t92, t93, t94, t95, t96, t97, t98, t99, t100, t101, t102, t103, v104, v105, v106, v107, v108, v109, v110, v111, v112, v113, v114, v115, v116, v117, v118, v119, v120, v121, v122, v123, v124, v125, v126, v127, v128, v129, v130, v131, v132, v133, v134, v135, v136, v137, v138, v139, v140, v141, v142, v143, v144, v145, v146, v147, v148, v149, v150, v151, v152, v153, v154, v155, v156, v157, v158, v159, v160, v161, v162, v163, v164, v165, v166, v167, v168, v169, v170, v171, v172, v173, v174, v175, v176, v177, v178, v179, v180, v181, v182, v183, v184, v185, v186, v187, v188, v189, v190, v191, v192, v193, v194, v195, v196, v197, v198, v199, v200, v201, v202, v203, v204, v205, v206, v207, v208, v209, v210, v211, v212, v213, v214, v215, v216, v217, v218, v219, v220, v221, v222, v223, v224, v225, v226, v227, v228, v229, v230, v231, v232, v233, v234, v235, v236, v237, v238, v239, v240, v241, v242, v243, t244, t245, t246, t247, t248, t249, t250, t251, t252, t253, t254, t255, t256, t257, t258, t259, t260, t261, t262, t263, t264, t265, t266, t267, t268, t269, t270, t271, t272, t273, t274, t275, t276, t277, t278, t279, t280, t281, t282, t283, t284, t285, t286, t287, t288, t289, t290, t291, t292, t293, t294, t295, t296, t297, t298, t299, t300], defers := [] } W') :
    Code.wp Try.prog wrSwitch Q { tmps := #[t0, t1, t2, t3, t4, t5, .pointer (some ⟨m, 0, none⟩), t7, t8, t9, .pointer (some ⟨x, 0, none⟩), .pointer none, .slice none 0 0, .bool false, t14, t15, t16, t17, t18, t19, t20, t21, t22, t23, t24, t25, t26, t27, t28, t29, t30, t31, t32, t33, t34, t35, t36, t37, t38, t39, t40, t41, t42, t43, t44, t45, t46, t47, t48, t49, t50, t51, t52, t53, t54, t55, t56, t57, t58, t59, t60, t61, t62, t63, t64, t65, t66, t67, t68, t69, t70, t71, t72, t73, t74, t75, t76, t77, t78, t79, t80, t81, t82, t83, t84, t85, t86, t87, t88, t89, t90, t91, t92, t93, t94, t95, t96, t97, t98, t99, t100, t101, t102, t103, .int .i64 o.kind, t105, t106, t107, t108, t109, t110, t111, t112, t113, t114, t115, t116, t117, t118, t119, t120, t121, t122, t123, t124, t125, t126, t127, t128, t129, t130, t131, t132, t133, t134, t135, t136, t137, t138, t139, t140, t141, t142, t143, t144, t145, t146, t147, t148, t149, t150, t151, t152, t153, t154, t155, t156, t157, t158, t159, t160, t161, t162, t163, t164, t165, t166, t167, t168, t169, t170, t171, t172, t173, t174, t175, t176, t177, t178, t179, t180, t181, t182, t183, t184, t185, t186, t187, t188, t189, t190, t191, t192, t193, t194, t195, t196, t197, t198, t199, t200, t201, t202, t203, t204, t205, t206, t207, t208, t209, t210, t211, t212, t213, t214, t215, t216, t217, t218, t219, t220, t221, t222, t223, t224, t225, t226, t227, t228, t229, t230, t231, t232, t233, t234, t235, t236, t237, t238, t239, t240, t241, t242, t243, t244, t245, t246, t247, t248, t249, t250, t251, t252, t253, t254, t255, t256, t257, t258, t259, t260, t261, t262, t263, t264, t265, t266, t267, t268, t269, t270, t271, t272, t273, t274, t275, t276, t277, t278, t279, t280, t281, t282, t283, t284, t285, t286, t287, t288, t289, t290, t291, t292, t293, t294, t295, t296, t297, t298, t299, t300], defers := [] } WA := by
  conv => arg 2; whnf
  have XC := XA.out.cells
  rw [Hns.out, Hnl.out, Hnp.out] at XC
  obtain ⟨xc0, xc1, xc2, xc3, xc4, xc5⟩ := XC
  have ek1 : (o.kind == 1) = false := by rw [hk2]; rfl
  have ek2 : (o.kind == 2) = true := by rw [hk2]; rfl
  have Hfs := Lib.hid (fields_two hk1 hk2)
  have Hnx := Lib.hid (next_two hk1 hk2 st)
  have HL := Lib.hid (lents_any o.sa o.sc o.s WA (by rw [Hns.out]; omega) LA_.out.s Hoo.out.sn)
  rw [Hns.out] at HL
  go_wp2_with fail
  refine HL.out.mono ?_
  rintro e w4 ⟨g, cap, rfl, hcap, hmk, b4, hgA⟩
  have hmlA : m < WA.heap.size := World.block_lt_of_cell? WA _ SA.out.made
  have Aw4g : Hid (Aw m w4 g) := Lib.hid (aw_fresh SA.out hgA b4)
  have S4 : Hid (St m m w4 st) := Lib.hid (SA.out.below b4)
  have X4 : Hid (BoxO w4 x o) := Lib.hid (XA.out.below b4)
  have Aw4x : Hid (Aw m w4 x) := Lib.hid ((Fr.below b4 hmlA).keep x hxA AwX.out).2
  have B4 : Hid (Below w.heap.size w w4) := Lib.hid (BA.out.trans (b4.mono BA.out.size))
  have hm4 : m ≤ w4.heap.size := Nat.le_trans hmA b4.size
  have T4 : Hid (TR w4 (some ⟨g, 0, none⟩) (o.s ++ [⟨#[109, 97, 114, 107]⟩])) := Lib.hid hmk
  have Hcap := Lib.hid hcap
  have XC := X4.out.cells
  rw [Hns.out, Hnl.out, Hnp.out] at XC
  have HP := Lib.hid (puttext_st m m st o.num (some ⟨g, 0, none⟩) cap o.s w4 hm4 S4.out (fun k => fit_texts hZ.out Hcur.out o Hcost.out k) (by rw [Hns.out]; omega) (fun t ht => by have h1 := tcost_mem ht; have h2 := Hcost.out; unfold OpI.cost at h2; omega) (tra_of T4.out Aw4g.out))
  rw [Hns.out] at HP ⊢
  clear b4 hmk hgA hmlA HL xc0 xc1 xc2 xc3 xc4 xc5 hcap
  obtain ⟨xc0, xc1, xc2, xc3, xc4, xc5⟩ := XC
  go_wp2_with fail
  refine HP.out.mono ?_
  rintro e w5 ⟨rfl, hS5, b5, f5⟩
  have X5 : Hid (BoxO w5 x o) := Lib.hid (blk_fr X4.out Aw4x.out f5)
  have T5 : Hid (TR w5 (some ⟨g, 0, none⟩) (o.s ++ [⟨#[109, 97, 114, 107]⟩])) := Lib.hid (tr_fr T4.out Aw4g.out f5)
  have S5 : Hid (St m m w5 (o.next st)) := Lib.hid (by rw [Hnx.out]; exact hS5)
  have B5 : Hid (Below w.heap.size w w5) := Lib.hid (B4.out.trans (b5.mono hle))
  have hm5 : m ≤ w5.heap.size := Nat.le_trans hm4 b5.size
  clear hS5 b5 f5 HP Hnx xc0 xc1 xc2 xc3 xc4 xc5 X4 T4 S4 B4 hm4 Aw4g Aw4x
  go_wp2_with fail
  go_loopw [12, 15] (fun fs j wq => ∃ j' : Nat, j' ≤ ns ∧ j = .int .i64 (j' : Int) ∧ Hid (wq.ownsRow w5.heap.size 37 5 fs j' (rfsC o.num ((o.s.take j').map tF2))) ∧ Hid (Below w5.heap.size w5 wq)) (fun _ j _ => ns - (intOf j).toNat)
  case atStart => exact ⟨0, by omega, rfl, Lib.hid (World.ownsRow_nil _ _ _ _), Lib.hid (Below.refl _ _)⟩
  case round =>
    obtain ⟨j, hj, rfl, hown, hbq⟩ := hrel
    have hXq : BoxO wr x o := X5.out.below hbq.out
    have XC := hXq.cells
    rw [Hns.out, Hnl.out, Hnp.out] at XC
    obtain ⟨xc0, xc1, xc2, xc3, xc4, xc5⟩ := XC
    have hBq : Below w.heap.size w wr := B5.out.trans (hbq.out.mono B5.out.size)
    by_cases hjl : j < ns
    · obtain ⟨t, htj⟩ : ∃ t, o.s[j]? = some t := ⟨_, List.getElem?_eq_getElem (by rw [Hns.out]; exact hjl)⟩
      obtain ⟨sad, hsa, hsl, hct⟩ := (Hlw.out.s.below hBq) j t htj
      obtain ⟨sad', hsa', hsl', _⟩ := (Hlw.out.s.below B5.out) j t htj
      rw [hsa'] at hsa
      cases hsa
      rw [hsa'] at xc3
      have hj0 : (0 : Int) ≤ (j : Int) := by omega
      have hj1 : (j : Int) < (ns : Int) := by omega
      have hx5 : x < w5.heap.size := X5.out.lt
      have hln : ((o.s.take j).map tF2).length = j := by rw [List.length_map, List.length_take, Hns.out]; omega
      have htk : (o.s.take (j + 1)).map tF2 = (o.s.take j).map tF2 ++ [tF2 t] := by rw [List.take_add_one, htj]; simp
      have ho' : wr.ownsRow w5.heap.size 37 5 u12 ((o.s.take j).map tF2).length (rfsC o.num ((o.s.take j).map tF2)) := by rw [hln]; exact hown.out
      have Ho := Lib.hid (World.ownsRow.drew ho')
      have Hln := Lib.hid hln
      have Htk := Lib.hid htk
      have hBs : w5.heap.size ≤ wr.drew.heap.size := hbq.out.size
      have hcsE : Hid ((#[.int .i64 o.num, .int .i64 2, .int .i64 0, .int .u64 0, .string t] : Array Value).toList = rfC o.num (tF2 t)) := Lib.hid rfl
      have hsad : sad.block < w5.heap.size := hsl'
      clear hown ho' hln htk hXq hBq htj hsl hsl' hsa'
      go_wp2_with fail
      go_region_held3 (fun w' => w'.cell? ⟨x, 1, none⟩ = some (.int .i64 o.num) ∧ w'.cell? ⟨x, 3, none⟩ = some (.slice (some sad) ns o.sc) ∧ w'.cell? (sad.add j) = some (.string t))
        (first | exact hS5 | go_keep)
        (first
          | (refine step_push_rg (by rfl) (.tmp 186) (.tmp 195) (by rfl) w5.heap.size _ _ o.num ((o.s.take j).map tF2) (tF2 t) _ hcsE.out (by rfl) Ho.out hBs _ rfl (by rfl) (by rw [Hln.out]; omega) ?_; intro v6 w6 own6 b6; have hS5 := And.intro ((b6.cell (p := ⟨x, 1, none⟩) hx5).trans xc1) (And.intro ((b6.cell (p := ⟨x, 3, none⟩) hx5).trans xc3) ((b6.cell (p := sad.add j) (by rw [add_block]; exact hsad)).trans hct))))
      have Ho' : Hid (w6.ownsRow w5.heap.size 37 5 v6 (j + 1) (rfsC o.num ((o.s.take (j + 1)).map tF2))) := Lib.hid (by
        have h1 := own6
        rw [List.length_append, Hln.out] at h1
        rw [Htk.out]
        exact h1)
      have Hb' : Hid (Below w5.heap.size w5 w6) := Lib.hid ((Below.drew hbq.out).trans b6)
      clear own6 b6 hS5 xc0 xc1 xc2 xc3 xc4 xc5 hct hsad hbq Ho hx5
      go_wp2_with fail
      go_roundw
      case rel => first | exact ⟨j + 1, by omega, by go_num, Ho', Hb'⟩ | ((repeat apply Exists.intro); exact ⟨⟨j + 1, by omega, by go_num, Ho', Hb'⟩, rfl⟩)
      case measure => simp [intOf]; omega
    · obtain rfl : j = ns := by omega
      have hlen2 : (o.s.map tF2).length = j := by rw [List.length_map, Hns.out]
      have hown2 : wr.ownsRow w5.heap.size 37 5 u12 (o.s.map tF2).length (rfsC o.num (o.s.map tF2)) := by
        have h1 := hown.out
        rw [List.take_of_length_le (by rw [Hns.out]; exact Nat.le_refl _)] at h1
        rw [hlen2]; exact h1
      obtain ⟨va, vn, vc, hv⟩ := slice_of hown2
      subst hv
      have hvn : ∃ fa fc, Value.slice va vn vc = .slice fa (o.s.map tF2).length fc := by
        rcases hown2.2 with ⟨h0, hn0⟩ | ⟨g', cap', cur', h0, _⟩
        · rw [hn0]; exact ⟨_, _, h0⟩
        · exact ⟨_, _, h0⟩
      obtain ⟨fa, fc, hfa⟩ := hvn
      cases hfa
      have HROW : Hid (RRow wr va o.num (o.s.map tF2)) := Lib.hid (rrow_own hown2 rfl)
      have S6 : Hid (St m m wr (o.next st)) := Lib.hid (S5.out.below hbq.out)
      have B6 : Hid (Below w.heap.size w wr) := Lib.hid hBq
      have T6 : Hid (TR wr (some ⟨g, 0, none⟩) (o.s ++ [⟨#[109, 97, 114, 107]⟩])) := Lib.hid (T5.out.below hbq.out)
      have hm6 : m ≤ wr.heap.size := Nat.le_trans hm5 hbq.out.size
      have Hlen2 := Lib.hid hlen2
      clear hown hown2 hXq hBq hbq hlen2
      rw [Hlen2.out]
      have hst := stayss_any g o.sa cap o.sc o.s wr (by rw [Hns.out]; omega) Hcap.out T6.out (Hlw.out.s.below B6.out)
      rw [Hns.out] at hst
      have HST := Lib.hid hst
      clear hst
      go_wp2_with fail
      refine HST.out.mono ?_
      rintro e w7 ⟨rfl, k7, rfl⟩
      have HM : Hid (MeetIs m w (wr.drewN k7) o st (.slice va j vc)) := Lib.hid (by
        have hd : Below wr.heap.size wr (wr.drewN k7) := below_dn (Below.refl _ _) k7
        refine ⟨⟨va, vc, by rw [Hfs.out.1, Hlen2.out], by rw [Hfs.out.1]; exact HROW.out.below hd⟩, S6.out.below hd, B6.out.trans (hd.mono B6.out.size), Nat.le_trans hm6 hd.size⟩)
      clear HST xc0 xc1 xc2 xc3 xc4 xc5 HROW S6 B6 T6
      go_wp2_with fail
      have hwd := Hfs.out.2
      rw [hwd] at hmeet
      exact hmeet _ _ _ _ _ _ _ _ _ _ _ _ _ _ _ _ _ _ _ _ _ _ _ _ _ _ _ _ _ _ _ _ _ _ _ _ _ _ _ _ _ _ _ _ _ _ _ _ _ _ _ _ _ _ _ _ _ _ _ _ _ _ _ _ _ _ _ _ _ _ _ _ _ _ _ _ _ _ _ _ _ _ _ _ _ _ _ _ _ _ _ _ _ _ _ _ _ _ _ _ _ _ _ _ _ _ _ _ _ _ _ _ _ _ _ _ _ _ _ _ _ _ _ _ _ _ _ _ _ _ _ _ _ _ _ _ _ _ _ _ _ _ _ _ _ _ _ _ _ _ HM
end Go.Proofs.Ytbkcklefkhlciaa
namespace Go.Proofs.Ytbkcklefkhlciaa
open Go.RowKit
set_option linter.unusedVariables false
set_option maxRecDepth 1000000 in
set_option maxHeartbeats 8000000 in
theorem wr_k3 (Q : Exit → Act → World → Prop) (m x : Nat) (w WA : World) (o : OpI) (st : Sta) (cur nl np ns : Nat) (hle : w.heap.size ≤ m) (hmA : m ≤ WA.heap.size) (hxm : m ≤ x) (hxA : x < WA.heap.size) (hnl3 : nl ≤ 3000) (hnp3 : np ≤ 7500) (hns3 : ns ≤ 1500) (Hnl : Hid (o.l.length = nl)) (Hnp : Hid (o.p.length = np)) (Hns : Hid (o.s.length = ns)) (Hoo : Hid o.ok) (Hcost : Hid (o.cost ≤ 30000)) (Hcur : Hid (cur ≤ 30000)) (hZ : Hid (Sz cur st)) (Hlw : Hid (o.lies w)) (XA : Hid (BoxO WA x o)) (SA : Hid (St m m WA st)) (AwX : Hid (Aw m WA x)) (BA : Hid (Below w.heap.size w WA)) (LA_ : Hid (o.lies WA)) (HPs : Hid (Fit st)) (hk1 : ¬ o.kind = 1) (hk2 : ¬ o.kind = 2) (hk3 : o.kind = 3)
    (t0 t1 t2 t3 t4 t5 t7 t8 t9 t14 t15 t16 t17 t18 t19 t20 t21 t22 t23 t24 t25 t26 t27 t28 t29 t30 t31 t32 t33 t34 t35 t36 t37 t38 t39 t40 t41 t42 t43 t44 t45 t46 t47 t48 t49 t50 t51 t52 t53 t54 t55 t56 t57 t58 t59 t60 t61 t62 t63 t64 t65 t66 t67 t68 t69 t70 t71 t72 t73 t74 t75 t76 t77 t78 t79 t80 t81 t82 t83 t84 t85 t86 t87 t88 t89 t90 t91 t92 t93 t94 t95 t96 t97 t98 t99 t100 t101 t102 t103 t105 t106 t107 t108 t109 t110 t111 t112 t113 t114 t115 t116 t117 t118 t119 t120 t121 t122 t123 t124 t125 t126 t127 t128 t129 t130 t131 t132 t133 t134 t135 t136 t137 t138 t139 t140 t141 t142 t143 t144 t145 t146 t147 t148 t149 t150 t151 t152 t153 t154 t155 t156 t157 t158 t159 t160 t161 t162 t163 t164 t165 t166 t167 t168 t169 t170 t171 t172 t173 t174 t175 t176 t177 t178 t179 t180 t181 t182 t183 t184 t185 t186 t187 t188 t189 t190 t191 t192 t193 t194 t195 t196 t197 t198 t199 t200 t201 t202 t203 t204 t205 t206 t207 t208 t209 t210 t211 t212 t213 t214 t215 t216 t217 t218 t219 t220 t221 t222 t223 t224 t225 t226 t227 t228 t229 t230 t231 t232 t233 t234 t235 t236 t237 t238 t239 t240 t241 t242 t243 t244 t245 t246 t247 t248 t249 t250 t251 t252 t253 t254 t255 t256 t257 t258 t259 t260 t261 t262 t263 t264 t265 t266 t267 t268 t269 t270 t271 t272 t273 t274 t275 t276 t277 t278 t279 t280 t281 t282 t283 t284 t285 t286 t287 t288 t289 t290 t291 t292 t293 t294 t295 t296 t297 t298 t299 t300 : Value)
    (hmeet : ∀ (fs : Value) (v14 v15 v16 v17 v18 v19 v20 v21 v104 v105 v106 v107 v108 v109 v110 v111 v112 v113 v114 v115 v116 v117 v118 v119 v120 v121 v122 v123 v124 v125 v126 v127 v128 v129 v130 v131 v132 v133 v134 v135 v136 v137 v138 v139 v140 v141 v142 v143 v144 v145 v146 v147 v148 v149 v150 v151 v152 v153 v154 v155 v156 v157 v158 v159 v160 v161 v162 v163 v164 v165 v166 v167 v168 v169 v170 v171 v172 v173 v174 v175 v176 v177 v178 v179 v180 v181 v182 v183 v184 v185 v186 v187 v188 v189 v190 v191 v192 v193 v194 v195 v196 v197 v198 v199 v200 v201 v202 v203 v204 v205 v206 v207 v208 v209 v210 v211 v212 v213 v214 v215 v216 v217 v218 v219 v220 v221 v222 v223 v224 v225 v226 v227 v228 v229 v230 v231 v232 v233 v234 v235 v236 v237 v238 v239 v240 v241 v242 v243 : Value) (W' : World), Hid (MeetIs m w W' o st fs) → Q .normal { tmps := #[t0, t1, t2, t3, t4, t5, .pointer (some ⟨m, 0, none⟩), t7, t8, t9, .pointer (some ⟨x, 0, none⟩), .pointer (some ⟨m, 0, none⟩), fs, .bool o.wide, v14, v15, v16, v17, v18, v19, v20, v21, t22, t23, t24, t25, t26, t27, t28, t29, t30, t31, t32, t33, t34, t35, t36, t37, t38, t39, t40, t41, t42, t43, t44, t45, t46, t47, t48, t49, t50, t51, t52, t53, t54, t55, t56, t57, t58, t59, t60, t61, t62, t63, t64, t65, t66, t67, t68, t69, t70, t71, t72, t73, t74, t75, t76, t77, t78, t79, t80, t81, t82, t83, t84, t85, t86, t87, t88, t89, t90, t91, t92, t93, t94, t95, t96, t97, t98, t99, t100, t101, t102, t103, v104, v105, v106, v107, v108, v109, v110, v111, v112, v113, v114, v115, v116, v117, v118, v119, v120, v121, v122, v123, v124, v125, v126, v127, v128, v129, v130, v131, v132, v133, v134, v135, v136, v137, v138, v139, v140, v141, v142, v143, v144, v145, v146, v147, v148, v149, v150, v151, v152, v153, v154, v155, v156, v157, v158, v159, v160, v161, v162, v163, v164, v165, v166, v167, v168, v169, v170, v171, v172, v173, v174, v175, v176, v177, v178, v179, v180, v181, v182, v183, v184, v185, v186, v187, v188, v189, v190, v191, v192, v193, v194, v195, v196, v197, v198, v199, v200, v201, v202, v203, v204, v205, v206, v207, v208, v209, v210, v211, v212, v213, v214, v215, v216, v217, v218, v219, v220, v221, v222, v223, v224, v225, v226, v227, v228, v229, v230, v231, v232, v233, v234, v235, v236, v237, v238, v239, v240, v241, v242, v243, t244, t245, t246, t247, t248, t249, t250, t251, t252, t253, t254, t255, t256, t257, t258, t259, t260, t261, t262, t263, t264, t265, t266, t267, t268, t269, t270, t271, t272, t273, t274, t275, t276, t277, t278, t279, t280, t281, t282, t283, t284, t285, t286, t287, t288, t289, t290, t291, t292, t293, t294, t295, t296, t297, t298, t299, t300], defers := [] } W') :
    Code.wp Try.prog wrSwitch Q { tmps := #[t0, t1, t2, t3, t4, t5, .pointer (some ⟨m, 0, none⟩), t7, t8, t9, .pointer (some ⟨x, 0, none⟩), .pointer none, .slice none 0 0, .bool false, t14, t15, t16, t17, t18, t19, t20, t21, t22, t23, t24, t25, t26, t27, t28, t29, t30, t31, t32, t33, t34, t35, t36, t37, t38, t39, t40, t41, t42, t43, t44, t45, t46, t47, t48, t49, t50, t51, t52, t53, t54, t55, t56, t57, t58, t59, t60, t61, t62, t63, t64, t65, t66, t67, t68, t69, t70, t71, t72, t73, t74, t75, t76, t77, t78, t79, t80, t81, t82, t83, t84, t85, t86, t87, t88, t89, t90, t91, t92, t93, t94, t95, t96, t97, t98, t99, t100, t101, t102, t103, .int .i64 o.kind, t105, t106, t107, t108, t109, t110, t111, t112, t113, t114, t115, t116, t117, t118, t119, t120, t121, t122, t123, t124, t125, t126, t127, t128, t129, t130, t131, t132, t133, t134, t135, t136, t137, t138, t139, t140, t141, t142, t143, t144, t145, t146, t147, t148, t149, t150, t151, t152, t153, t154, t155, t156, t157, t158, t159, t160, t161, t162, t163, t164, t165, t166, t167, t168, t169, t170, t171, t172, t173, t174, t175, t176, t177, t178, t179, t180, t181, t182, t183, t184, t185, t186, t187, t188, t189, t190, t191, t192, t193, t194, t195, t196, t197, t198, t199, t200, t201, t202, t203, t204, t205, t206, t207, t208, t209, t210, t211, t212, t213, t214, t215, t216, t217, t218, t219, t220, t221, t222, t223, t224, t225, t226, t227, t228, t229, t230, t231, t232, t233, t234, t235, t236, t237, t238, t239, t240, t241, t242, t243, t244, t245, t246, t247, t248, t249, t250, t251, t252, t253, t254, t255, t256, t257, t258, t259, t260, t261, t262, t263, t264, t265, t266, t267, t268, t269, t270, t271, t272, t273, t274, t275, t276, t277, t278, t279, t280, t281, t282, t283, t284, t285, t286, t287, t288, t289, t290, t291, t292, t293, t294, t295, t296, t297, t298, t299, t300], defers := [] } WA := by
  conv => arg 2; whnf
  have XC := XA.out.cells
  rw [Hns.out, Hnl.out, Hnp.out] at XC
  obtain ⟨xc0, xc1, xc2, xc3, xc4, xc5⟩ := XC
  have ek1 : (o.kind == 1) = false := by rw [hk3]; rfl
  have ek2 : (o.kind == 2) = false := by rw [hk3]; rfl
  have ek3 : (o.kind == 3) = true := by rw [hk3]; rfl
  have Hfs := Lib.hid (fields_three hk1 hk2 hk3)
  have Hnx := Lib.hid (next_three hk1 hk2 hk3 st)
  have HL := Lib.hid (lenti_any o.la o.lc o.l WA (by rw [Hnl.out]; omega) LA_.out.l Hoo.out.ln)
  rw [Hnl.out] at HL
  go_wp2_with fail
  refine HL.out.mono ?_
  rintro e w4 ⟨g, cap, rfl, hcap, hmk, b4, hgA⟩
  have hmlA : m < WA.heap.size := World.block_lt_of_cell? WA _ SA.out.made
  have Aw4g : Hid (Aw m w4 g) := Lib.hid (aw_fresh SA.out hgA b4)
  have S4 : Hid (St m m w4 st) := Lib.hid (SA.out.below b4)
  have X4 : Hid (BoxO w4 x o) := Lib.hid (XA.out.below b4)
  have Aw4x : Hid (Aw m w4 x) := Lib.hid ((Fr.below b4 hmlA).keep x hxA AwX.out).2
  have B4 : Hid (Below w.heap.size w w4) := Lib.hid (BA.out.trans (b4.mono BA.out.size))
  have hm4 : m ≤ w4.heap.size := Nat.le_trans hmA b4.size
  have T4 : Hid (IR w4 (some ⟨g, 0, none⟩) (o.l ++ [-77])) := Lib.hid hmk
  have Hcap := Lib.hid hcap
  have XC := X4.out.cells
  rw [Hns.out, Hnl.out, Hnp.out] at XC
  have HP := Lib.hid (putints_st m m st o.num o.l (some ⟨g, 0, none⟩) cap w4 hm4 S4.out HPs.out (by rw [Hnl.out]; omega) (ir_front T4.out))
  rw [Hnl.out] at HP ⊢
  clear b4 hmk hgA hmlA HL xc0 xc1 xc2 xc3 xc4 xc5 hcap
  obtain ⟨xc0, xc1, xc2, xc3, xc4, xc5⟩ := XC
  go_wp2_with fail
  refine HP.out.mono ?_
  rintro e w5 ⟨rfl, hS5, b5, f5⟩
  have X5 : Hid (BoxO w5 x o) := Lib.hid (blk_fr X4.out Aw4x.out f5)
  have T5 : Hid (IR w5 (some ⟨g, 0, none⟩) (o.l ++ [-77])) := Lib.hid (ir_fr T4.out Aw4g.out f5)
  have S5 : Hid (St m m w5 (o.next st)) := Lib.hid (by rw [Hnx.out]; exact hS5)
  have B5 : Hid (Below w.heap.size w w5) := Lib.hid (B4.out.trans (b5.mono hle))
  have hm5 : m ≤ w5.heap.size := Nat.le_trans hm4 b5.size
  clear hS5 b5 f5 HP Hnx xc0 xc1 xc2 xc3 xc4 xc5 X4 T4 S4 B4 hm4 Aw4g Aw4x
  go_wp2_with fail
  go_loopw [17, 18] (fun dt j wq => ∃ j' : Nat, j' ≤ nl ∧ j = .int .i64 (j' : Int) ∧ dt = .string (ibs (o.l.take j')) ∧ Hid (Below w5.heap.size w5 wq)) (fun _ j _ => nl - (intOf j).toNat)
  case atStart => exact ⟨0, by omega, rfl, rfl, Lib.hid (Below.refl _ _)⟩
  case round =>
    obtain ⟨j, hj, rfl, rfl, hbq⟩ := hrel
    have hXq : BoxO wr x o := X5.out.below hbq.out
    have XC := hXq.cells
    rw [Hns.out, Hnl.out, Hnp.out] at XC
    obtain ⟨xc0, xc1, xc2, xc3, xc4, xc5⟩ := XC
    have hBq : Below w.heap.size w wr := B5.out.trans (hbq.out.mono B5.out.size)
    by_cases hjl : j < nl
    · obtain ⟨iad, hia, _, hci⟩ := (Hlw.out.l.below hBq) j (by rw [Hnl.out]; exact hjl)
      rw [hia] at xc4
      have hj0 : (0 : Int) ≤ (j : Int) := by omega
      have hj1 : (j : Int) < (nl : Int) := by omega
      have hmore : Hid (ibs (o.l.take (j + 1)) = ibs (o.l.take j) ++ txt (pv (un (o.l.getD j 0)))) := Lib.hid (by rw [take_more o.l j 0 (by rw [Hnl.out]; exact hjl), ibs_app, ibs_one])
      have hsl : (ibs (o.l.take j)).size ≤ 100000 ∧ (txt (pv (un (o.l.getD j 0)))).size ≤ 10 := ⟨by have := ibs_size (o.l.take j); rw [List.length_take] at this; omega, by rw [txt_size]; exact pv_ten _ (un_lt _)⟩
      obtain ⟨zz, hzz⟩ : ∃ zz, o.l.getD j 0 = zz := ⟨_, rfl⟩
      rw [hzz] at hci hmore hsl
      have HPV : Hid (∀ w, Calls Try.prog 16 #[.int .u64 (IntKind.u64.wrap zz)] w (GaveText (txt (pv (un zz))) w)) := Lib.hid (fun w => by rw [un_wrap]; exact refputv_any (un zz) w (un_lt zz))
      obtain ⟨D1, hD1⟩ : ∃ D1, ibs (o.l.take j) = D1 := ⟨_, rfl⟩
      obtain ⟨D2, hD2⟩ : ∃ D2, txt (pv (un zz)) = D2 := ⟨_, rfl⟩
      rw [hD1, hD2] at hmore hsl
      rw [hD2] at HPV
      rw [hD1]
      have hlen12 : D1.size + D2.size ≤ 9223372036854775807 := by omega
      clear hzz hD1 hD2 hsl hXq hia
      go_wp2_with fail
      refine (HPV.out _).mono ?_
      rintro e w6 ⟨rfl, b6⟩
      have Hb' : Hid (Below w5.heap.size w5 w6) := Lib.hid (hbq.out.trans (b6.mono hbq.out.size))
      clear b6 HPV xc0 xc1 xc2 xc3 xc4 xc5 hci hbq hBq
      go_wp2_with fail
      clear hlen12
      go_roundw
      case rel => first | exact ⟨j + 1, by omega, by go_num, by rw [hmore.out], Hb'⟩ | ((repeat apply Exists.intro); exact ⟨⟨j + 1, by omega, by go_num, by rw [hmore.out], Hb'⟩, rfl⟩)
      case measure => simp [intOf]; omega

    · obtain rfl : j = nl := by omega
      have hD : ibs (o.l.take j) = ibs o.l := by rw [List.take_of_length_le (by rw [Hnl.out]; exact Nat.le_refl _)]
      rw [hD]
      have S6 : Hid (St m m wr (o.next st)) := Lib.hid (S5.out.below hbq.out)
      have B6 : Hid (Below w.heap.size w wr) := Lib.hid hBq
      have T6 : Hid (IR wr (some ⟨g, 0, none⟩) (o.l ++ [-77])) := Lib.hid (T5.out.below hbq.out)
      have X6 : Hid (BoxO wr x o) := Lib.hid hXq
      have hm6 : m ≤ wr.heap.size := Nat.le_trans hm5 hbq.out.size
      obtain ⟨DD, hDD⟩ : ∃ DD, ibs o.l = DD := ⟨_, rfl⟩
      rw [hDD]
      have HDD := Lib.hid hDD
      clear hXq hBq hbq hD hDD S5 X5 T5 B5 hm5
      by_cases hj0 : j = 0
      · subst hj0
        have Hf0 : Hid (o.fields = []) := Lib.hid (by rw [Hfs.out.1, if_pos Hnl.out])
        have hst := staysi_any g o.la cap o.lc o.l wr (by rw [Hnl.out]; omega) Hcap.out T6.out (Hlw.out.l.below B6.out)
        rw [Hnl.out] at hst
        have HST := Lib.hid hst
        clear hst
        go_wp2_with fail
        refine HST.out.mono ?_
        rintro e w7 ⟨rfl, k7, rfl⟩
        have HM : Hid (MeetIs m w (wr.drewN k7) o st (.slice none 0 0)) := Lib.hid (by
          have hd : Below wr.heap.size wr (wr.drewN k7) := below_dn (Below.refl _ _) k7
          refine ⟨⟨none, 0, by rw [Hf0.out]; rfl, by rw [Hf0.out]; exact fun i f h => by simp at h⟩, S6.out.below hd, B6.out.trans (hd.mono B6.out.size), Nat.le_trans hm6 hd.size⟩)
        clear HST xc0 xc1 xc2 xc3 xc4 xc5 S6 B6 T6 X6
        go_wp2_with fail
        have hwd := Hfs.out.2
        rw [hwd] at hmeet
        exact hmeet _ _ _ _ _ _ _ _ _ _ _ _ _ _ _ _ _ _ _ _ _ _ _ _ _ _ _ _ _ _ _ _ _ _ _ _ _ _ _ _ _ _ _ _ _ _ _ _ _ _ _ _ _ _ _ _ _ _ _ _ _ _ _ _ _ _ _ _ _ _ _ _ _ _ _ _ _ _ _ _ _ _ _ _ _ _ _ _ _ _ _ _ _ _ _ _ _ _ _ _ _ _ _ _ _ _ _ _ _ _ _ _ _ _ _ _ _ _ _ _ _ _ _ _ _ _ _ _ _ _ _ _ _ _ _ _ _ _ _ _ _ _ _ _ _ _ _ _ _ _ HM
      · have hjp : (0 : Int) < (j : Int) := by omega
        have Hf1 : Hid (o.fields = [⟨2, 0, DD⟩]) := Lib.hid (by rw [Hfs.out.1, if_neg (by rw [Hnl.out]; exact hj0), ← HDD.out])
        go_wp2_with (at_builtin; refine push_rg rfl (.tmp 232) (.tmp 237) rfl wr.heap.size _ _ o.num [] ⟨2, 0, DD⟩ _ rfl rfl (World.ownsRow_nil _ _ _ _) (Nat.le_refl _) _ rfl rfl (by simp) ?_)
        intro v' W6 own6 b6
        obtain ⟨va, vn, vc, rfl⟩ := slice_of own6
        obtain ⟨fa, fc, hv⟩ : ∃ fa fc, Value.slice va vn vc = .slice fa 1 fc := by
          rcases own6.2 with ⟨_, hn0⟩ | ⟨g', cap', cur', hv, _⟩
          · simp at hn0
          · exact ⟨_, _, hv⟩
        cases hv
        have HROW : Hid (RRow W6 va o.num [⟨2, 0, DD⟩]) := Lib.hid (rrow_own own6 rfl)
        have S7 : Hid (St m m W6 (o.next st)) := Lib.hid (S6.out.below b6)
        have B7 : Hid (Below w.heap.size w W6) := Lib.hid (B6.out.trans (b6.mono B6.out.size))
        have T7 : Hid (IR W6 (some ⟨g, 0, none⟩) (o.l ++ [-77])) := Lib.hid (T6.out.below b6)
        have hm7 : m ≤ W6.heap.size := Nat.le_trans hm6 b6.size
        have XC7 := (X6.out.below b6).cells
        rw [Hns.out, Hnl.out, Hnp.out] at XC7
        clear own6 b6 xc0 xc1 xc2 xc3 xc4 xc5 S6 B6 T6 X6
        obtain ⟨xc0, xc1, xc2, xc3, xc4, xc5⟩ := XC7
        have hst := staysi_any g o.la cap o.lc o.l W6 (by rw [Hnl.out]; omega) Hcap.out T7.out (Hlw.out.l.below B7.out)
        rw [Hnl.out] at hst
        have HST := Lib.hid hst
        clear hst
        go_wp2_with fail
        refine HST.out.mono ?_
        rintro e w7 ⟨rfl, k7, rfl⟩
        have HM : Hid (MeetIs m w (W6.drewN k7) o st (.slice va 1 vc)) := Lib.hid (by
          have hd : Below W6.heap.size W6 (W6.drewN k7) := below_dn (Below.refl _ _) k7
          refine ⟨⟨va, vc, by rw [Hf1.out]; rfl, by rw [Hf1.out]; exact HROW.out.below hd⟩, S7.out.below hd, B7.out.trans (hd.mono B7.out.size), Nat.le_trans hm7 hd.size⟩)
        clear HST xc0 xc1 xc2 xc3 xc4 xc5 S7 B7 T7 HROW
        go_wp2_with fail
        have hwd := Hfs.out.2
        rw [hwd] at hmeet
        exact hmeet _ _ _ _ _ _ _ _ _ _ _ _ _ _ _ _ _ _ _ _ _ _ _ _ _ _ _ _ _ _ _ _ _ _ _ _ _ _ _ _ _ _ _ _ _ _ _ _ _ _ _ _ _ _ _ _ _ _ _ _ _ _ _ _ _ _ _ _ _ _ _ _ _ _ _ _ _ _ _ _ _ _ _ _ _ _ _ _ _ _ _ _ _ _ _ _ _ _ _ _ _ _ _ _ _ _ _ _ _ _ _ _ _ _ _ _ _ _ _ _ _ _ _ _ _ _ _ _ _ _ _ _ _ _ _ _ _ _ _ _ _ _ _ _ _ _ _ _ _ _ HM
end Go.Proofs.Ytbkcklefkhlciaa
namespace Go.Proofs.Ytbkcklefkhlciaa
open Go.RowKit
set_option linter.unusedVariables false
set_option maxRecDepth 1000000 in
set_option maxHeartbeats 8000000 in
theorem wr_k4 (Q : Exit → Act → World → Prop) (m x : Nat) (w WA : World) (o : OpI) (st : Sta) (cur nl np ns : Nat) (hle : w.heap.size ≤ m) (hmA : m ≤ WA.heap.size) (hxm : m ≤ x) (hxA : x < WA.heap.size) (hnl3 : nl ≤ 3000) (hnp3 : np ≤ 7500) (hns3 : ns ≤ 1500) (Hnl : Hid (o.l.length = nl)) (Hnp : Hid (o.p.length = np)) (Hns : Hid (o.s.length = ns)) (Hoo : Hid o.ok) (Hcost : Hid (o.cost ≤ 30000)) (Hcur : Hid (cur ≤ 30000)) (hZ : Hid (Sz cur st)) (Hlw : Hid (o.lies w)) (XA : Hid (BoxO WA x o)) (SA : Hid (St m m WA st)) (AwX : Hid (Aw m WA x)) (BA : Hid (Below w.heap.size w WA)) (LA_ : Hid (o.lies WA)) (HPs : Hid (Fit st)) (hk1 : ¬ o.kind = 1) (hk2 : ¬ o.kind = 2) (hk3 : ¬ o.kind = 3)
    (t0 t1 t2 t3 t4 t5 t7 t8 t9 t14 t15 t16 t17 t18 t19 t20 t21 t22 t23 t24 t25 t26 t27 t28 t29 t30 t31 t32 t33 t34 t35 t36 t37 t38 t39 t40 t41 t42 t43 t44 t45 t46 t47 t48 t49 t50 t51 t52 t53 t54 t55 t56 t57 t58 t59 t60 t61 t62 t63 t64 t65 t66 t67 t68 t69 t70 t71 t72 t73 t74 t75 t76 t77 t78 t79 t80 t81 t82 t83 t84 t85 t86 t87 t88 t89 t90 t91 t92 t93 t94 t95 t96 t97 t98 t99 t100 t101 t102 t103 t105 t106 t107 t108 t109 t110 t111 t112 t113 t114 t115 t116 t117 t118 t119 t120 t121 t122 t123 t124 t125 t126 t127 t128 t129 t130 t131 t132 t133 t134 t135 t136 t137 t138 t139 t140 t141 t142 t143 t144 t145 t146 t147 t148 t149 t150 t151 t152 t153 t154 t155 t156 t157 t158 t159 t160 t161 t162 t163 t164 t165 t166 t167 t168 t169 t170 t171 t172 t173 t174 t175 t176 t177 t178 t179 t180 t181 t182 t183 t184 t185 t186 t187 t188 t189 t190 t191 t192 t193 t194 t195 t196 t197 t198 t199 t200 t201 t202 t203 t204 t205 t206 t207 t208 t209 t210 t211 t212 t213 t214 t215 t216 t217 t218 t219 t220 t221 t222 t223 t224 t225 t226 t227 t228 t229 t230 t231 t232 t233 t234 t235 t236 t237 t238 t239 t240 t241 t242 t243 t244 t245 t246 t247 t248 t249 t250 t251 t252 t253 t254 t255 t256 t257 t258 t259 t260 t261 t262 t263 t264 t265 t266 t267 t268 t269 t270 t271 t272 t273 t274 t275 t276 t277 t278 t279 t280 t281 t282 t283 t284 t285 t286 t287 t288 t289 t290 t291 t292 t293 t294 t295 t296 t297 t298 t299 t300 : Value)
    (hmeet : ∀ (fs : Value) (v14 v15 v16 v17 v18 v19 v20 v21 v104 v105 v106 v107 v108 v109 v110 v111 v112 v113 v114 v115 v116 v117 v118 v119 v120 v121 v122 v123 v124 v125 v126 v127 v128 v129 v130 v131 v132 v133 v134 v135 v136 v137 v138 v139 v140 v141 v142 v143 v144 v145 v146 v147 v148 v149 v150 v151 v152 v153 v154 v155 v156 v157 v158 v159 v160 v161 v162 v163 v164 v165 v166 v167 v168 v169 v170 v171 v172 v173 v174 v175 v176 v177 v178 v179 v180 v181 v182 v183 v184 v185 v186 v187 v188 v189 v190 v191 v192 v193 v194 v195 v196 v197 v198 v199 v200 v201 v202 v203 v204 v205 v206 v207 v208 v209 v210 v211 v212 v213 v214 v215 v216 v217 v218 v219 v220 v221 v222 v223 v224 v225 v226 v227 v228 v229 v230 v231 v232 v233 v234 v235 v236 v237 v238 v239 v240 v241 v242 v243 : Value) (W' : World), Hid (MeetIs m w W' o st fs) → Q .normal { tmps := #[t0, t1, t2, t3, t4, t5, .pointer (some ⟨m, 0, none⟩), t7, t8, t9, .pointer (some ⟨x, 0, none⟩), .pointer (some ⟨m, 0, none⟩), fs, .bool o.wide, v14, v15, v16, v17, v18, v19, v20, v21, t22, t23, t24, t25, t26, t27, t28, t29, t30, t31, t32, t33, t34, t35, t36, t37, t38, t39, t40, t41, t42, t43, t44, t45, t46, t47, t48, t49, t50, t51, t52, t53, t54, t55, t56, t57, t58, t59, t60, t61, t62, t63, t64, t65, t66, t67, t68, t69, t70, t71, t72, t73, t74, t75, t76, t77, t78, t79, t80, t81, t82, t83, t84, t85, t86, t87, t88, t89, t90, t91, t92, t93, t94, t95, t96, t97, t98, t99, t100, t101, t102, t103, v104, v105, v106, v107, v108, v109, v110, v111, v112, v113, v114, v115, v116, v117, v118, v119, v120, v121, v122, v123, v124, v125, v126, v127, v128, v129, v130, v131, v132, v133, v134, v135, v136, v137, v138, v139, v140, v141, v142, v143, v144, v145, v146, v147, v148, v149, v150, v151, v152, v153, v154, v155, v156, v157, v158, v159, v160, v161, v162, v163, v164, v165, v166, v167, v168, v169, v170, v171, v172, v173, v174, v175, v176, v177, v178, v179, v180, v181, v182, v183, v184, v185, v186, v187, v188, v189, v190, v191, v192, v193, v194, v195, v196, v197, v198, v199, v200, v201, v202, v203, v204, v205, v206, v207, v208, v209, v210, v211, v212, v213, v214, v215, v216, v217, v218, v219, v220, v221, v222, v223, v224, v225, v226, v227, v228, v229, v230, v231, v232, v233, v234, v235, v236, v237, v238, v239, v240, v241, v242, v243, t244, t245, t246, t247, t248, t249, t250, t251, t252, t253, t254, t255, t256, t257, t258, t259, t260, t261, t262, t263, t264, t265, t266, t267, t268, t269, t270, t271, t272, t273, t274, t275, t276, t277, t278, t279, t280, t281, t282, t283, t284, t285, t286, t287, t288, t289, t290, t291, t292, t293, t294, t295, t296, t297, t298, t299, t300], defers := [] } W') :
    Code.wp Try.prog wrSwitch Q { tmps := #[t0, t1, t2, t3, t4, t5, .pointer (some ⟨m, 0, none⟩), t7, t8, t9, .pointer (some ⟨x, 0, none⟩), .pointer none, .slice none 0 0, .bool false, t14, t15, t16, t17, t18, t19, t20, t21, t22, t23, t24, t25, t26, t27, t28, t29, t30, t31, t32, t33, t34, t35, t36, t37, t38, t39, t40, t41, t42, t43, t44, t45, t46, t47, t48, t49, t50, t51, t52, t53, t54, t55, t56, t57, t58, t59, t60, t61, t62, t63, t64, t65, t66, t67, t68, t69, t70, t71, t72, t73, t74, t75, t76, t77, t78, t79, t80, t81, t82, t83, t84, t85, t86, t87, t88, t89, t90, t91, t92, t93, t94, t95, t96, t97, t98, t99, t100, t101, t102, t103, .int .i64 o.kind, t105, t106, t107, t108, t109, t110, t111, t112, t113, t114, t115, t116, t117, t118, t119, t120, t121, t122, t123, t124, t125, t126, t127, t128, t129, t130, t131, t132, t133, t134, t135, t136, t137, t138, t139, t140, t141, t142, t143, t144, t145, t146, t147, t148, t149, t150, t151, t152, t153, t154, t155, t156, t157, t158, t159, t160, t161, t162, t163, t164, t165, t166, t167, t168, t169, t170, t171, t172, t173, t174, t175, t176, t177, t178, t179, t180, t181, t182, t183, t184, t185, t186, t187, t188, t189, t190, t191, t192, t193, t194, t195, t196, t197, t198, t199, t200, t201, t202, t203, t204, t205, t206, t207, t208, t209, t210, t211, t212, t213, t214, t215, t216, t217, t218, t219, t220, t221, t222, t223, t224, t225, t226, t227, t228, t229, t230, t231, t232, t233, t234, t235, t236, t237, t238, t239, t240, t241, t242, t243, t244, t245, t246, t247, t248, t249, t250, t251, t252, t253, t254, t255, t256, t257, t258, t259, t260, t261, t262, t263, t264, t265, t266, t267, t268, t269, t270, t271, t272, t273, t274, t275, t276, t277, t278, t279, t280, t281, t282, t283, t284, t285, t286, t287, t288, t289, t290, t291, t292, t293, t294, t295, t296, t297, t298, t299, t300], defers := [] } WA := by
  conv => arg 2; whnf
  have XC := XA.out.cells
  rw [Hns.out, Hnl.out, Hnp.out] at XC
  obtain ⟨xc0, xc1, xc2, xc3, xc4, xc5⟩ := XC
  have ek1 : (o.kind == 1) = false := by simp [hk1]
  have ek2 : (o.kind == 2) = false := by simp [hk2]
  have ek3 : (o.kind == 3) = false := by simp [hk3]
  have Hfs := Lib.hid (fields_four hk1 hk2 hk3)
  have Hnx := Lib.hid (next_four hk1 hk2 hk3 st)
  have HL := Lib.hid (lentp_any o.pa o.pc o.p WA (by rw [Hnp.out]; omega) LA_.out.p Hoo.out.pn)
  rw [Hnp.out] at HL
  go_wp2_with fail
  refine HL.out.mono ?_
  rintro e w4 ⟨g, cap, rfl, hcap, hmk, b4, hgA⟩
  have hmlA : m < WA.heap.size := World.block_lt_of_cell? WA _ SA.out.made
  have Aw4g : Hid (Aw m w4 g) := Lib.hid (aw_fresh SA.out hgA b4)
  have S4 : Hid (St m m w4 st) := Lib.hid (SA.out.below b4)
  have X4 : Hid (BoxO w4 x o) := Lib.hid (XA.out.below b4)
  have Aw4x : Hid (Aw m w4 x) := Lib.hid ((Fr.below b4 hmlA).keep x hxA AwX.out).2
  have B4 : Hid (Below w.heap.size w w4) := Lib.hid (BA.out.trans (b4.mono BA.out.size))
  have hm4 : m ≤ w4.heap.size := Nat.le_trans hmA b4.size
  have T4 : Hid (UR w4 (some ⟨g, 0, none⟩) (o.p ++ [77])) := Lib.hid hmk
  have Hcap := Lib.hid hcap
  have XC := X4.out.cells
  rw [Hns.out, Hnl.out, Hnp.out] at XC
  have HP := Lib.hid (putflts_st m m st o.num o.p (some ⟨g, 0, none⟩) cap w4 hm4 S4.out HPs.out (by rw [Hnp.out]; omega) (ur_front T4.out))
  rw [Hnp.out] at HP ⊢
  clear b4 hmk hgA hmlA HL xc0 xc1 xc2 xc3 xc4 xc5 hcap
  obtain ⟨xc0, xc1, xc2, xc3, xc4, xc5⟩ := XC
  go_wp2_with fail
  refine HP.out.mono ?_
  rintro e w5 ⟨rfl, hS5, b5, f5⟩
  have X5 : Hid (BoxO w5 x o) := Lib.hid (blk_fr X4.out Aw4x.out f5)
  have T5 : Hid (UR w5 (some ⟨g, 0, none⟩) (o.p ++ [77])) := Lib.hid (ur_fr T4.out Aw4g.out f5)
  have S5 : Hid (St m m w5 (o.next st)) := Lib.hid (by rw [Hnx.out]; exact hS5)
  have B5 : Hid (Below w.heap.size w w5) := Lib.hid (B4.out.trans (b5.mono hle))
  have hm5 : m ≤ w5.heap.size := Nat.le_trans hm4 b5.size
  clear hS5 b5 f5 HP Hnx xc0 xc1 xc2 xc3 xc4 xc5 X4 T4 S4 B4 hm4 Aw4g Aw4x
  go_wp2_with fail
  go_loopw [13, 20, 21] (fun wd dt j wq => ∃ j' : Nat, j' ≤ np ∧ j = .int .i64 (j' : Int) ∧ dt = .string (fbs (o.p.take j')) ∧ wd = .bool (wideB (o.p.take j')) ∧ Hid (Below w5.heap.size w5 wq)) (fun _ _ j _ => np - (intOf j).toNat)
  case atStart => exact ⟨0, by omega, rfl, rfl, rfl, Lib.hid (Below.refl _ _)⟩
  case round =>
    obtain ⟨j, hj, rfl, rfl, rfl, hbq⟩ := hrel
    have hXq : BoxO wr x o := X5.out.below hbq.out
    have XC := hXq.cells
    rw [Hns.out, Hnl.out, Hnp.out] at XC
    obtain ⟨xc0, xc1, xc2, xc3, xc4, xc5⟩ := XC
    have hBq : Below w.heap.size w wr := B5.out.trans (hbq.out.mono B5.out.size)
    by_cases hjl : j < np
    · obtain ⟨iad, hia, _, hci⟩ := (Hlw.out.p.below hBq) j (by rw [Hnp.out]; exact hjl)
      rw [hia] at xc5
      have hj0 : (0 : Int) ≤ (j : Int) := by omega
      have hj1 : (j : Int) < (np : Int) := by omega
      have hmore : Hid (fbs (o.p.take (j + 1)) = fbs (o.p.take j) ++ txt (fx (o.p.getD j 0) 4)) := Lib.hid (by rw [take_more o.p j 0 (by rw [Hnp.out]; exact hjl), fbs_app, fbs_one])
      have hwide : Hid (wideB (o.p.take (j + 1)) = (wideB (o.p.take j) || decide (4294967296 ≤ o.p.getD j 0))) := Lib.hid (wideB_take o.p j (by rw [Hnp.out]; exact hjl))
      have hsl : (fbs (o.p.take j)).size ≤ 100000 ∧ (txt (fx (o.p.getD j 0) 4)).size ≤ 10 := ⟨by have := fbs_size (o.p.take j); rw [List.length_take] at this; omega, by rw [txt_size, fx_length]; omega⟩
      have hzl : o.p.getD j 0 < 18446744073709551616 := by
        have hjp : j < o.p.length := by rw [Hnp.out]; exact hjl
        rw [List.getD_eq_getElem?_getD, List.getElem?_eq_getElem hjp]
        exact Hoo.out.p _ (List.getElem_mem hjp)
      obtain ⟨zz, hzz⟩ : ∃ zz, o.p.getD j 0 = zz := ⟨_, rfl⟩
      rw [hzz] at hci hmore hsl hwide hzl
      have HPV : Hid (∀ w, Calls Try.prog 20 #[.int .u64 (zz : Int), .int .i64 4] w (GaveText (txt (fx zz 4)) w)) := Lib.hid (fun w => rlittle_any zz 4 w hzl (by omega))
      obtain ⟨D1, hD1⟩ : ∃ D1, fbs (o.p.take j) = D1 := ⟨_, rfl⟩
      obtain ⟨D2, hD2⟩ : ∃ D2, txt (fx zz 4) = D2 := ⟨_, rfl⟩
      rw [hD1, hD2] at hmore hsl
      rw [hD2] at HPV
      rw [hD1]
      obtain ⟨wb, hwb⟩ : ∃ wb, wideB (o.p.take j) = wb := ⟨_, rfl⟩
      rw [hwb] at hwide ⊢
      have hlen12 : D1.size + D2.size ≤ 9223372036854775807 := by omega
      have hXq2 := Lib.hid hXq
      have Hia := Lib.hid hia
      clear hzz hD1 hD2 hsl hXq hia hzl hwb
      go_wp2_with fail
      refine (HPV.out _).mono ?_
      rintro e w6 ⟨rfl, b6⟩
      have Hb' : Hid (Below w5.heap.size w5 w6) := Lib.hid (hbq.out.trans (b6.mono hbq.out.size))
      have XC6 := (hXq2.out.below b6).cells
      have hci6 := (b6.cell (p := iad.add j) (World.block_lt_of_cell? _ _ hci)).trans hci
      rw [Hns.out, Hnl.out, Hnp.out, Hia.out] at XC6
      clear b6 HPV xc0 xc1 xc2 xc3 xc4 xc5 hci hbq hBq hXq2
      obtain ⟨xc0, xc1, xc2, xc3, xc4, xc5⟩ := XC6
      cases wb with
      | true =>
        have hfin : Hid (wideB (o.p.take (j + 1)) = true) := Lib.hid (by rw [hwide.out]; rfl)
        go_wp2_with fail
        clear hlen12 xc0 xc1 xc2 xc3 xc4 xc5 hci6
        go_roundw
        case rel => first | exact ⟨j + 1, by omega, by go_num, by rw [hmore.out], by rw [hfin.out], Hb'⟩ | ((repeat apply Exists.intro); exact ⟨⟨j + 1, by omega, by go_num, by rw [hmore.out], by rw [hfin.out], Hb'⟩, rfl⟩)
        case measure => simp [intOf]; omega
      | false =>
        by_cases hbig : 4294967296 ≤ zz
        · have hfin : Hid (wideB (o.p.take (j + 1)) = true) := Lib.hid (by rw [hwide.out]; simp [hbig])
          have hbi : (4294967296 : Int) ≤ (zz : Int) := by omega
          clear hbig
          go_wp2_with fail
          clear hlen12 xc0 xc1 xc2 xc3 xc4 xc5 hci6 hbi
          go_roundw
          case rel => first | exact ⟨j + 1, by omega, by go_num, by rw [hmore.out], by rw [hfin.out], Hb'⟩ | ((repeat apply Exists.intro); exact ⟨⟨j + 1, by omega, by go_num, by rw [hmore.out], by rw [hfin.out], Hb'⟩, rfl⟩)
          case measure => simp [intOf]; omega
        · have hfin : Hid (wideB (o.p.take (j + 1)) = false) := Lib.hid (by rw [hwide.out]; simp; omega)
          have HB0 : Hid (decide ((4294967296 : Int) ≤ (zz : Int)) = false) := Lib.hid (by simp; omega)
          have hbi : ¬ (4294967296 : Int) ≤ (zz : Int) := by omega
          clear hbig
          go_wp2_with fail
          clear hlen12 xc0 xc1 xc2 xc3 xc4 xc5 hci6 hbi
          go_roundw
          case rel => first | exact ⟨j + 1, by omega, by go_num, by rw [hmore.out], by (rw [hfin.out, HB0.out]), Hb'⟩ | ((repeat apply Exists.intro); exact ⟨⟨j + 1, by omega, by go_num, by rw [hmore.out], by (rw [hfin.out, HB0.out]), Hb'⟩, rfl⟩)
          case measure => simp [intOf]; omega

    · obtain rfl : j = np := by omega
      have hD : fbs (o.p.take j) = fbs o.p := by rw [List.take_of_length_le (by rw [Hnp.out]; exact Nat.le_refl _)]
      rw [hD]
      have hwl : wideB (o.p.take j) = o.wide := by rw [List.take_of_length_le (by rw [Hnp.out]; exact Nat.le_refl _), Hfs.out.2]
      rw [hwl]
      have S6 : Hid (St m m wr (o.next st)) := Lib.hid (S5.out.below hbq.out)
      have B6 : Hid (Below w.heap.size w wr) := Lib.hid hBq
      have T6 : Hid (UR wr (some ⟨g, 0, none⟩) (o.p ++ [77])) := Lib.hid (T5.out.below hbq.out)
      have X6 : Hid (BoxO wr x o) := Lib.hid hXq
      have hm6 : m ≤ wr.heap.size := Nat.le_trans hm5 hbq.out.size
      obtain ⟨DD, hDD⟩ : ∃ DD, fbs o.p = DD := ⟨_, rfl⟩
      rw [hDD]
      have HDD := Lib.hid hDD
      clear hXq hBq hbq hD hDD S5 X5 T5 B5 hm5
      by_cases hj0 : j = 0
      · subst hj0
        have Hf0 : Hid (o.fields = []) := Lib.hid (by rw [Hfs.out.1, if_pos Hnp.out])
        have hst := staysp_any g o.pa cap o.pc o.p wr (by rw [Hnp.out]; omega) Hcap.out T6.out (Hlw.out.p.below B6.out)
        rw [Hnp.out] at hst
        have HST := Lib.hid hst
        clear hst
        go_wp2_with fail
        refine HST.out.mono ?_
        rintro e w7 ⟨rfl, k7, rfl⟩
        have HM : Hid (MeetIs m w (wr.drewN k7) o st (.slice none 0 0)) := Lib.hid (by
          have hd : Below wr.heap.size wr (wr.drewN k7) := below_dn (Below.refl _ _) k7
          refine ⟨⟨none, 0, by rw [Hf0.out]; rfl, by rw [Hf0.out]; exact fun i f h => by simp at h⟩, S6.out.below hd, B6.out.trans (hd.mono B6.out.size), Nat.le_trans hm6 hd.size⟩)
        clear HST xc0 xc1 xc2 xc3 xc4 xc5 S6 B6 T6 X6
        go_wp2_with fail
        exact HM
      · have hjp : (0 : Int) < (j : Int) := by omega
        have Hf1 : Hid (o.fields = [⟨2, 0, DD⟩]) := Lib.hid (by rw [Hfs.out.1, if_neg (by rw [Hnp.out]; exact hj0), ← HDD.out])
        go_wp2_with (at_builtin; refine push_rg rfl (.tmp 141) (.tmp 146) rfl wr.heap.size _ _ o.num [] ⟨2, 0, DD⟩ _ rfl rfl (World.ownsRow_nil _ _ _ _) (Nat.le_refl _) _ rfl rfl (by simp) ?_)
        intro v' W6 own6 b6
        obtain ⟨va, vn, vc, rfl⟩ := slice_of own6
        obtain ⟨fa, fc, hv⟩ : ∃ fa fc, Value.slice va vn vc = .slice fa 1 fc := by
          rcases own6.2 with ⟨_, hn0⟩ | ⟨g', cap', cur', hv, _⟩
          · simp at hn0
          · exact ⟨_, _, hv⟩
        cases hv
        have HROW : Hid (RRow W6 va o.num [⟨2, 0, DD⟩]) := Lib.hid (rrow_own own6 rfl)
        have S7 : Hid (St m m W6 (o.next st)) := Lib.hid (S6.out.below b6)
        have B7 : Hid (Below w.heap.size w W6) := Lib.hid (B6.out.trans (b6.mono B6.out.size))
        have T7 : Hid (UR W6 (some ⟨g, 0, none⟩) (o.p ++ [77])) := Lib.hid (T6.out.below b6)
        have hm7 : m ≤ W6.heap.size := Nat.le_trans hm6 b6.size
        have XC7 := (X6.out.below b6).cells
        rw [Hns.out, Hnl.out, Hnp.out] at XC7
        clear own6 b6 xc0 xc1 xc2 xc3 xc4 xc5 S6 B6 T6 X6
        obtain ⟨xc0, xc1, xc2, xc3, xc4, xc5⟩ := XC7
        have hst := staysp_any g o.pa cap o.pc o.p W6 (by rw [Hnp.out]; omega) Hcap.out T7.out (Hlw.out.p.below B7.out)
        rw [Hnp.out] at hst
        have HST := Lib.hid hst
        clear hst
        go_wp2_with fail
        refine HST.out.mono ?_
        rintro e w7 ⟨rfl, k7, rfl⟩
        have HM : Hid (MeetIs m w (W6.drewN k7) o st (.slice va 1 vc)) := Lib.hid (by
          have hd : Below W6.heap.size W6 (W6.drewN k7) := below_dn (Below.refl _ _) k7
          refine ⟨⟨va, vc, by rw [Hf1.out]; rfl, by rw [Hf1.out]; exact HROW.out.below hd⟩, S7.out.below hd, B7.out.trans (hd.mono B7.out.size), Nat.le_trans hm7 hd.size⟩)
        clear HST xc0 xc1 xc2 xc3 xc4 xc5 S7 B7 T7 HROW
        go_wp2_with fail
        exact HM
end Go.Proofs.Ytbkcklefkhlciaa
namespace Go.Proofs.Ytbkcklefkhlciaa
open Go.RowKit
set_option linter.unusedVariables false
set_option maxRecDepth 1000000 in
set_option maxHeartbeats 8000000 in
theorem wr_tail (Q : Exit → Act → World → Prop) (o : OpI) (m nf cur : Nat) (wd : Bool) (Hwd : Hid (o.wide = wd)) (va : Option Addr) (vc : Nat) (w wc : World) (st : Sta) (T : ByteArray) (hW : Hid (WantIs st T)) (HROW : Hid (RRow wc va o.num o.fields)) (HSt : Hid (St m m wc (o.next st))) (HBc : Hid (Below w.heap.size w wc)) (hmc : m ≤ wc.heap.size) (Hnf : Hid (o.fields.length = nf)) (Hoo : Hid o.ok) (Hcost : Hid (o.cost ≤ 30000)) (Hcur : Hid (cur ≤ 30000)) (hZ : Hid (Sz cur st))
    (t0 t1 t2 t3 t4 t5 t9 t10 t14 t15 t16 t17 t18 t19 t20 t21 t22 t23 t24 t25 t26 t27 t28 t29 t30 t31 t32 t33 t34 t35 t36 t37 t38 t39 t40 t41 t42 t43 t44 t45 t46 t47 t48 t49 t50 t51 t52 t53 t54 t55 t56 t57 t58 t59 t60 t61 t62 t63 t64 t65 t66 t67 t68 t69 t70 t71 t72 t73 t74 t75 t76 t77 t78 t79 t80 t81 t82 t83 t84 t85 t86 t87 t88 t89 t90 t91 t92 t93 t94 t95 t96 t97 t98 t99 t100 t101 t102 t103 t104 t105 t106 t107 t108 t109 t110 t111 t112 t113 t114 t115 t116 t117 t118 t119 t120 t121 t122 t123 t124 t125 t126 t127 t128 t129 t130 t131 t132 t133 t134 t135 t136 t137 t138 t139 t140 t141 t142 t143 t144 t145 t146 t147 t148 t149 t150 t151 t152 t153 t154 t155 t156 t157 t158 t159 t160 t161 t162 t163 t164 t165 t166 t167 t168 t169 t170 t171 t172 t173 t174 t175 t176 t177 t178 t179 t180 t181 t182 t183 t184 t185 t186 t187 t188 t189 t190 t191 t192 t193 t194 t195 t196 t197 t198 t199 t200 t201 t202 t203 t204 t205 t206 t207 t208 t209 t210 t211 t212 t213 t214 t215 t216 t217 t218 t219 t220 t221 t222 t223 t224 t225 t226 t227 t228 t229 t230 t231 t232 t233 t234 t235 t236 t237 t238 t239 t240 t241 t242 t243 t244 t245 t246 t247 t248 t249 t250 t251 t252 t253 t254 t255 t256 t257 t258 t259 t260 t261 t262 t263 t264 t265 t266 t267 t268 t269 t270 t271 t272 t273 t274 t275 t276 t277 t278 t279 t280 t281 t282 t283 t284 t285 t286 t287 t288 t289 t290 t291 t292 t293 t294 t295 t296 t297 t298 t299 t300 : Value)
    (hround : ∀ (T' : ByteArray) (bd : Int) (v22 v23 v24 v25 v26 v244 v245 v246 v247 v248 v249 v250 v251 v252 v253 v254 v255 v256 v257 v258 v259 v260 v261 v262 v263 v264 v265 v266 v267 v268 v269 v270 v271 v272 v273 v274 v275 v276 v277 v278 v279 v280 v281 v282 v283 v284 v285 v286 v287 v288 v289 v290 v291 v292 v293 v294 v295 v296 v297 v298 v299 v300 : Value) (W' : World), Hid (bd = badOf (o.next st) ∧ WantIs (o.next st) T' ∧ St m m W' (o.next st) ∧ Below w.heap.size w W') → Q .normal { tmps := #[t0, t1, t2, t3, t4, t5, .pointer (some ⟨m, 0, none⟩), .string T', .int .i64 bd, t9, t10, .pointer (some ⟨m, 0, none⟩), .slice va nf vc, .bool wd, t14, t15, t16, t17, t18, t19, t20, t21, v22, v23, v24, v25, v26, t27, t28, t29, t30, t31, t32, t33, t34, t35, t36, t37, t38, t39, t40, t41, t42, t43, t44, t45, t46, t47, t48, t49, t50, t51, t52, t53, t54, t55, t56, t57, t58, t59, t60, t61, t62, t63, t64, t65, t66, t67, t68, t69, t70, t71, t72, t73, t74, t75, t76, t77, t78, t79, t80, t81, t82, t83, t84, t85, t86, t87, t88, t89, t90, t91, t92, t93, t94, t95, t96, t97, t98, t99, t100, t101, t102, t103, t104, t105, t106, t107, t108, t109, t110, t111, t112, t113, t114, t115, t116, t117, t118, t119, t120, t121, t122, t123, t124, t125, t126, t127, t128, t129, t130, t131, t132, t133, t134, t135, t136, t137, t138, t139, t140, t141, t142, t143, t144, t145, t146, t147, t148, t149, t150, t151, t152, t153, t154, t155, t156, t157, t158, t159, t160, t161, t162, t163, t164, t165, t166, t167, t168, t169, t170, t171, t172, t173, t174, t175, t176, t177, t178, t179, t180, t181, t182, t183, t184, t185, t186, t187, t188, t189, t190, t191, t192, t193, t194, t195, t196, t197, t198, t199, t200, t201, t202, t203, t204, t205, t206, t207, t208, t209, t210, t211, t212, t213, t214, t215, t216, t217, t218, t219, t220, t221, t222, t223, t224, t225, t226, t227, t228, t229, t230, t231, t232, t233, t234, t235, t236, t237, t238, t239, t240, t241, t242, t243, v244, v245, v246, v247, v248, v249, v250, v251, v252, v253, v254, v255, v256, v257, v258, v259, v260, v261, v262, v263, v264, v265, v266, v267, v268, v269, v270, v271, v272, v273, v274, v275, v276, v277, v278, v279, v280, v281, v282, v283, v284, v285, v286, v287, v288, v289, v290, v291, v292, v293, v294, v295, v296, v297, v298, v299, v300], defers := [] } W') :
    Code.wp Try.prog wrTail Q { tmps := #[t0, t1, t2, t3, t4, t5, .pointer (some ⟨m, 0, none⟩), .string T, .int .i64 (badOf st), t9, t10, .pointer (some ⟨m, 0, none⟩), .slice va nf vc, .bool wd, t14, t15, t16, t17, t18, t19, t20, t21, t22, t23, t24, t25, t26, t27, t28, t29, t30, t31, t32, t33, t34, t35, t36, t37, t38, t39, t40, t41, t42, t43, t44, t45, t46, t47, t48, t49, t50, t51, t52, t53, t54, t55, t56, t57, t58, t59, t60, t61, t62, t63, t64, t65, t66, t67, t68, t69, t70, t71, t72, t73, t74, t75, t76, t77, t78, t79, t80, t81, t82, t83, t84, t85, t86, t87, t88, t89, t90, t91, t92, t93, t94, t95, t96, t97, t98, t99, t100, t101, t102, t103, t104, t105, t106, t107, t108, t109, t110, t111, t112, t113, t114, t115, t116, t117, t118, t119, t120, t121, t122, t123, t124, t125, t126, t127, t128, t129, t130, t131, t132, t133, t134, t135, t136, t137, t138, t139, t140, t141, t142, t143, t144, t145, t146, t147, t148, t149, t150, t151, t152, t153, t154, t155, t156, t157, t158, t159, t160, t161, t162, t163, t164, t165, t166, t167, t168, t169, t170, t171, t172, t173, t174, t175, t176, t177, t178, t179, t180, t181, t182, t183, t184, t185, t186, t187, t188, t189, t190, t191, t192, t193, t194, t195, t196, t197, t198, t199, t200, t201, t202, t203, t204, t205, t206, t207, t208, t209, t210, t211, t212, t213, t214, t215, t216, t217, t218, t219, t220, t221, t222, t223, t224, t225, t226, t227, t228, t229, t230, t231, t232, t233, t234, t235, t236, t237, t238, t239, t240, t241, t242, t243, t244, t245, t246, t247, t248, t249, t250, t251, t252, t253, t254, t255, t256, t257, t258, t259, t260, t261, t262, t263, t264, t265, t266, t267, t268, t269, t270, t271, t272, t273, t274, t275, t276, t277, t278, t279, t280, t281, t282, t283, t284, t285, t286, t287, t288, t289, t290, t291, t292, t293, t294, t295, t296, t297, t298, t299, t300], defers := [] } wc := by
  conv => arg 2; whnf
  have hnf30 : nf ≤ 30000 := by
    have h1 := (o.fields_ok Hoo.out Hcost.out).2
    have h2 := lcost_len o.fields
    have h3 := Hcost.out
    have h4 := Hnf.out
    omega
  have Hfok : Hid (∀ f ∈ o.fields, f.ok) := Lib.hid (o.fields_ok Hoo.out Hcost.out).1
  have Hfsz : Hid (∀ f ∈ o.fields, f.data.size ≤ 30000) := Lib.hid (fun f hf => by
    have h1 := (o.fields_ok Hoo.out Hcost.out).2
    have h2 := lcost_mem hf
    have h3 := Hcost.out
    omega)
  have HSzA : Hid (∀ (j : Nat) (ps : List (Fd × ByteArray)), (if o.wide then none else addS o.num st (fl o.num (o.fields.take j))) = some ps → (cat ps).size ≤ 60000) := Lib.hid (fun j ps e => by
    cases hw : o.wide with
    | true => rw [hw] at e; simp at e
    | false =>
      rw [hw] at e
      simp only [Bool.false_eq_true, if_false] at e
      have h1 := hZ.out.add o.num (o.fields.take j) (fun f hf => Hfok.out f (List.mem_of_mem_take hf)) ps e
      have h2 := lcost_take o.fields j
      have h3 := (o.fields_ok Hoo.out Hcost.out).2
      have h4 := Hcost.out
      have h5 := Hcur.out
      omega)
  refine wp_seq_k fun KT hKT => ?_
  dsimp only
  go_cut [8] from 244 to 300 (fun bd wx => bd = .int .i64 (badOf (if wd then none else st)) ∧ wx = wc)
  case first =>
    obtain ⟨bd, hbd⟩ : ∃ bd, badOf st = bd := ⟨_, rfl⟩
    have hbd01 : bd = 0 ∨ bd = 1 := by rw [← hbd]; cases st with
      | none => exact .inr rfl
      | some ps => exact .inl rfl
    rw [hbd]
    have Hbd := Lib.hid hbd
    clear hbd hround
    have e1 : badOf none = 1 := rfl
    have He1 := Lib.hid e1
    clear e1
    clear Hwd
    cases wd with
    | true =>
      rcases hbd01 with rfl | rfl
      all_goals
        go_wp2_with fail
        go_meet
        case rel => exact ⟨by rw [if_pos trivial, He1.out], rfl⟩
    | false =>
      rcases hbd01 with rfl | rfl
      all_goals
        go_wp2_with fail
        go_meet
        case rel => exact ⟨by rw [if_neg (by simp), Hbd.out], rfl⟩
  case rest =>
    obtain ⟨rfl, rfl⟩ := hcut
    obtain ⟨s0, hs0⟩ : ∃ s0, (if wd then none else st) = s0 := ⟨_, rfl⟩
    have Hs0 := Lib.hid hs0
    have HST0 : Hid (s0 = (if o.wide then none else addS o.num st (fl o.num (o.fields.take 0)))) := Lib.hid (by
      rw [← hs0, ← Hwd.out]
      show (if o.wide then none else st) = (if o.wide then none else addS o.num st [])
      rw [addS_nil])
    rw [hs0]
    clear hs0
    go_wp2_with fail
    go_loopw [7, 8, 22] (fun wt bd k wq => ∃ (j : Nat) (st' : Sta) (T' : ByteArray), j ≤ nf ∧ k = .int .i64 (j : Int) ∧ wt = .string T' ∧ bd = .int .i64 (badOf st') ∧ Hid (WantIs st' T') ∧ Hid (st' = (if o.wide then none else addS o.num st (fl o.num (o.fields.take j)))) ∧ Hid (Below wc.heap.size wc wq)) (fun _ _ k _ => nf - (intOf k).toNat)
    case atStart => exact ⟨0, s0, T, by omega, rfl, rfl, rfl, Lib.hid (fun ps e => hW.out ps (by rw [← Hs0.out] at e; cases wd with | true => simp at e | false => simpa using e)), HST0, Lib.hid (Below.refl _ _)⟩
    case round =>
      obtain ⟨j, st', T', hj, rfl, rfl, rfl, hW', hst', hbq⟩ := hrel
      cases st' with
      | none =>
        have e1 : badOf none = 1 := rfl
        rw [e1]
        have HN : Hid (o.next st = none) := Lib.hid (by rw [← next_end (j := j) (.inr hst'.out.symm)]; exact hst'.out.symm)
        have SQ : Hid (St m m wr none) := Lib.hid (by rw [← HN.out]; exact HSt.out.below hbq.out)
        have BQ : Hid (Below w.heap.size w wr) := Lib.hid (HBc.out.trans (hbq.out.mono HBc.out.size))
        have hmq : m ≤ wr.heap.size := Nat.le_trans hmc hbq.out.size
        clear hst' hW' hbq
        have HBY := Lib.hid (bytes_bad m m wr SQ.out)
        have hpp := fun wx => neq_same ⟨m, 0, none⟩ wx
        by_cases hjl : j < nf
        · have hji : (j : Int) < (nf : Int) := by omega
          go_wp2_with fail
          refine HBY.out.mono ?_
          rintro e w8 ⟨rfl, k8, rfl⟩
          have hd : Below wr.heap.size wr (wr.drewN k8) := below_dn (Below.refl _ _) k8
          have S8 : Hid (St m m (wr.drewN k8) none) := Lib.hid (SQ.out.below hd)
          have B8 : Hid (Below w.heap.size w (wr.drewN k8)) := Lib.hid (BQ.out.trans (hd.mono BQ.out.size))
          have hm8 : m ≤ (wr.drewN k8).heap.size := Nat.le_trans hmq hd.size
          clear hd SQ BQ HBY hmq
          go_wp2_with fail
          exact (Lib.hid ⟨(by rw [HN.out]; rfl), (by rw [HN.out]; exact fun ps e => by cases e), (by rw [HN.out]; exact S8.out), B8.out⟩)
        · have hji : ¬ (j : Int) < (nf : Int) := by omega
          go_wp2_with fail
          refine HBY.out.mono ?_
          rintro e w8 ⟨rfl, k8, rfl⟩
          have hd : Below wr.heap.size wr (wr.drewN k8) := below_dn (Below.refl _ _) k8
          have S8 : Hid (St m m (wr.drewN k8) none) := Lib.hid (SQ.out.below hd)
          have B8 : Hid (Below w.heap.size w (wr.drewN k8)) := Lib.hid (BQ.out.trans (hd.mono BQ.out.size))
          have hm8 : m ≤ (wr.drewN k8).heap.size := Nat.le_trans hmq hd.size
          clear hd SQ BQ HBY hmq
          go_wp2_with fail
          exact (Lib.hid ⟨(by rw [HN.out]; rfl), (by rw [HN.out]; exact fun ps e => by cases e), (by rw [HN.out]; exact S8.out), B8.out⟩)
      | some ps' =>
        have e1 : badOf (some ps') = 0 := rfl
        rw [e1]
        have hTe : T' = cat ps' := hW'.out ps' rfl
        by_cases hjl : j < nf
        · obtain ⟨f, hf⟩ : ∃ f, o.fields[j]? = some f := ⟨_, List.getElem?_eq_getElem (by rw [Hnf.out]; exact hjl)⟩
          obtain ⟨gg, hgg, hgl, hgc⟩ := (HROW.out.below hbq.out) j f hf
          have hfok := Hfok.out f (List.mem_of_getElem? hf)
          have n0 := hgc 0 _ rfl; have n1 := hgc 1 _ rfl; have n2 := hgc 2 _ rfl; have n3 := hgc 3 _ rfl; have n4 := hgc 4 _ rfl
          simp only [Nat.add_zero] at n0
          have hj0 : (0 : Int) ≤ (j : Int) := by omega
          have hj1 : (j : Int) < (nf : Int) := by omega
          have HPU := Lib.hid (fun w => rput_st o.num f w hfok)
          have hstep := want_step o.num ps' f
          rw [← hTe] at hstep
          have hnext : addS o.num (some ps') [f.fd o.num] = (if o.wide then none else addS o.num st (fl o.num (o.fields.take (j + 1)))) := by
            have h1 := hst'.out
            rw [fl_take o.num o.fields j f hf]
            cases hw : o.wide with
            | true => rw [hw] at h1; simp at h1
            | false =>
              rw [hw] at h1
              simp only [Bool.false_eq_true, if_false] at h1 ⊢
              rw [h1, addS_app]
          have HNX := Lib.hid hnext
          have HW2 := Lib.hid hstep.1
          have HB2 := Lib.hid hstep.2
          have hsz : T'.size + (rT o.num f).size ≤ 9223372036854775807 := by
            have h2 := HSzA.out j ps' hst'.out.symm
            rw [← hTe] at h2
            have h3 := rt_size o.num f hfok
            have h4 := Hfsz.out f (List.mem_of_getElem? hf)
            omega
          obtain ⟨RT, hRT⟩ : ∃ RT, rT o.num f = RT := ⟨_, rfl⟩
          obtain ⟨RE, hRE⟩ : ∃ RE, rE o.num = RE := ⟨_, rfl⟩
          rw [hRT] at HW2 hsz
          rw [hRE] at HB2
          rw [hRT, hRE] at HPU
          subst hgg
          clear hgc hst' hW' hTe hstep hnext hRT hRE hfok hf e1
          go_wp2_with fail
          refine (HPU.out _).mono ?_
          rintro e w8 ⟨rfl, b8⟩
          have Hb8 : Hid (Below wc.heap.size wc w8) := Lib.hid (hbq.out.trans (b8.mono hbq.out.size))
          clear b8 hbq HPU n0 n1 n2 n3 n4 hgl
          go_wp2_with fail
          clear hsz
          go_roundw
          case rel => first | exact ⟨j + 1, addS o.num (some ps') [f.fd o.num], T' ++ RT, by omega, by go_num, rfl, by rw [HB2.out], HW2, HNX, Hb8⟩ | ((repeat apply Exists.intro); exact ⟨⟨j + 1, addS o.num (some ps') [f.fd o.num], T' ++ RT, by omega, by go_num, rfl, by rw [HB2.out], HW2, HNX, Hb8⟩, rfl⟩)
          case measure => simp [intOf]; omega
        · obtain rfl : j = nf := by omega
          have HN : Hid (o.next st = some ps') := Lib.hid (by rw [← next_end (j := j) (.inl (by rw [Hnf.out]; exact Nat.le_refl _))]; exact hst'.out.symm)
          have SQ : Hid (MsgP m m wr ps' 0) := Lib.hid (by have h := HSt.out.below hbq.out; rw [HN.out] at h; exact h)
          have BQ : Hid (Below w.heap.size w wr) := Lib.hid (HBc.out.trans (hbq.out.mono HBc.out.size))
          have hmq : m ≤ wr.heap.size := Nat.le_trans hmc hbq.out.size
          have HZ2 : Hid (Sz (cur + o.cost) (some ps')) := Lib.hid (by rw [← HN.out]; exact o.next_sz Hoo.out Hcost.out hZ.out)
          have hz3 : cur + o.cost ≤ 60000 := by have := Hcur.out; have := Hcost.out; omega
          have HBY := Lib.hid (bytes_any m m ps' wr SQ.out (fun p hp => (HZ2.out ps' rfl).2.2 p hp) (by have := (HZ2.out ps' rfl).2.1; omega) (by have := (HZ2.out ps' rfl).1; omega))
          rw [← hTe] at HBY
          have HTe := Lib.hid hTe
          clear hst' hW' hbq hTe hz3 e1
          have hpp := fun wx => neq_same ⟨m, 0, none⟩ wx
          go_wp2_with fail
          refine HBY.out.mono ?_
          rintro e w8 ⟨rfl, hd⟩
          have S8 : Hid (St m m w8 (some ps')) := Lib.hid (MsgP.below SQ.out hd)
          have B8 : Hid (Below w.heap.size w w8) := Lib.hid (BQ.out.trans (hd.mono BQ.out.size))
          have hm8 : m ≤ w8.heap.size := Nat.le_trans hmq hd.size
          have HW9 : Hid (WantIs (some ps') T') := Lib.hid (fun qs e => by cases e; exact HTe.out)
          clear hd SQ BQ HBY hmq
          go_wp2_with fail
          exact (Lib.hid ⟨(by rw [HN.out]; rfl), (by rw [HN.out]; exact HW9.out), (by rw [HN.out]; exact S8.out), B8.out⟩)
end Go.Proofs.Ytbkcklefkhlciaa
