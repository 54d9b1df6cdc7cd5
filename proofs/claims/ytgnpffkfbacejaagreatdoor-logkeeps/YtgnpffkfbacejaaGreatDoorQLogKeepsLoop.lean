/-
  A part of the walk of stairlaw3.LogKeeps: the outer loop.
-/
import Derived.Test.YtgnpffkfbacejaaGreatDoorQLogKeepsO
namespace Go.Proofs.YtgnpffkfbacejaaGreatDoor.LogKeeps
open Go.ChangeShapes Go.WideShapes Go.ChangeAt Go.RowKit
open Go.Proofs.YtgnpffkfbacejaaGreatDoor.M Go.Proofs.YtgnpffkfbacejaaGreatDoor.Log
set_option linter.unusedVariables false

set_option maxRecDepth 20000 in
set_option maxHeartbeats 200000000 in
theorem loop : LoopSt := by
  intro e0 he0 Lg HLL HRL HSL HFL HCL HLE HBL HSF a0 a1 a2 a3 a4 n0 n1 n2 n3 n4 c0 c1 c2 c3 c4 p w wc ns ls ys fs ks HG HN0 HM0 HR0 HZ0 HN1 HR1 HN2 HR2 HN3 HR3 HN4 HR4 hm0' hm1' hm2' hm3' hm4' AL S9 g9 HK0 t5 t6 t7 t8 t9 t10 t11 t12 t13 t14 t15 t16 t17 t18 t24 t25 t26 t27 t28 t29 t30 t31 t32 t33 t34 t35 t36 t37 t38 t39 t40 t41 t42 t43 t44 t45 t46 t47 t48 t49 t50 t51 t52 t53 t54 t55 t56 t57 t58 t59 t60 t61 t62 t63 t64 t65 t66 t67 t68 t69 t70 t71 t72 t73 t74 t75 t76 t77 t78 t79 t80 t81 t82 t83 t84 t85 t86 t87 t88 t89 t90 t91 t92 t93 t94 t95 t96 t97 t98 t99 t100 t101 t102 t103 t104 t105 t106 t107 t108 t109 t110 t111 t112 t113 t114 t115 t116 t117 t118 t119 t120 t121 t122 t123 t124 t125 t126 t127 t128 t129 t130 t131 t132 t133 t134 t135 t136 t137 t138 t139 t140 t141 t142 t143 t144 t145 t146 t147 t148 t149 t150 t151 t152 t153 t154 t155 t156 t157 t158 t159 t160 t161 t162 t163 t164 t165 t166 t167 t168 t169 t170 t171 t172 t173 t174 t175 t176 t177 t178 t179 t180 t181 t182 t183 t184 t185 t186 t187 t188 t189 t190 t191 t192 t193 t194 t195 t196 t197 t198 t199 t200 t201 t202 t203 t204 t205 t206 t207 t208 t209 t210 t211 t212 t213 t214 t215 t216 t217 t218 t219 t220 t221 t222 t223 t224 t225 t226 t227 t228 t229 t230 t231 t232 t233 t234 t235 t236 t237 t238 t239 t240 t241 t242 t243 t244 t245 t246 t247 t248 t249 t250 t251 t252 t253 t254 t255 t256 t257 t258 t259 t260 t261 t262 t263 t264 t265 t266 t267 t268 t269 t270 t271 t272 t273 t274 t275 t276 t277 t278 t279 t280 t281 t282 t283 t284 t285 t286 t287 t288 t289 t290 t291 t292 t293 t294 t295 t296 t297 t298 t299 t300 t301 t302 t303 t304 t305 t306 t307 t308 t309 t310 t311 t312 t313 t314 t315 t316 t317 t318 t319 t320 t321 t322 t323 t324 t325 t326 t327 t328 t329 t330 t331 t332 t333 t334 t335 t336 t337 t338 t339
  change some _ = some e0 at he0
  obtain rfl := Option.some.inj he0
  clear he0
  refine wp_again ?_
  intro J0 K0 hJ0 hK0
  go_wp2_with (fail)
  go_loopw [20, 21, 22, 23, 24, 25, 26, 27, 28, 29, 30, 31, 32, 33, 34, 35, 36, 37, 38, 39, 40] (fun s20 s21 s22 s23 _ _ _ _ _ _ _ _ _ _ _ _ _ _ _ _ _ wr => ∃ (r at' : Nat) (S : Nat → Prop) (j : LS) (gd cd gm cm : Nat) (os : List Ob) (ms : List Nat), s20 = .slice (some ⟨gd, 0, none⟩) os.length cd ∧ s21 = .slice (some ⟨gm, 0, none⟩) ms.length cm ∧ s22 = .int .i64 at' ∧ s23 = .int .i64 r ∧ r ≤ 4 ∧ at' ≤ n1 ∧ Hid (RK HLL.out w p S j gd cd gm cm os ms wr)) (fun _ _ _ s23 _ _ _ _ _ _ _ _ _ _ _ _ _ _ _ _ _ _ => 4 - (intOf s23).toNat)
  case atStart => exact ⟨0, 0, S9, newL, _, 1, _, 1, [(g9, .slice none 0 0, [])], [0], rfl, rfl, rfl, rfl, by omega, by omega, HK0.out⟩
  case round =>
    obtain ⟨r, at', S, j, gd, cd, gm, cm, os, ms, rfl, rfl, rfl, rfl, hr4, hat, HK⟩ := hrel
    clear HK0
    by_cases hlt : r ≤ n3 ∧ r < 4
    · obtain ⟨hr3, hr4'⟩ := hlt
      have hr3z : (r : Int) ≤ n3 := by omega
      have hr4z : (r : Int) < 4 := by omega
      go_upto_block 1 with (fail)
      refine outerk _ (by kernel_rfl) Lg HLL HRL HSL HFL HCL HLE HBL HSF a0 a1 a2 a3 a4 n0 n1 n2 n3 n4 c0 c1 c2 c3 c4 p w (_) ns ls ys fs ks HG HN0 HM0 HR0 HZ0 HN1 HR1 HN2 HR2 HN3 HR3 HN4 HR4 hm0' hm1' hm2' hm3' hm4' AL at' r (hr4') gd cd gm cm os ms S j hat HK _ _ _ _ _ _ _ _ _ _ _ _ _ _ _ _ _ _ _ _ _ _ _ _ _ _ _ _ _ _ _ _ _ _ _ _ _ _ _ _ _ _ _ _ _ _ _ _ _ _ _ _ _ _ _ _ _ _ _ _ _ _ _ _ _ _ _ _ _ _ _ _ _ _ _ _ _ _ _ _ _ _ _ _ _ _ _ _ _ _ _ _ _ _ _ _ _ _ _ _ _ _ _ _ _ _ _ _ _ _ _ _ _ _ _ _ _ _ _ _ _ _ _ _ _ _ _ _ _ _ _ _ _ _ _ _ _ _ _ _ _ _ _ _ _ _ _ _ _ _ _ _ _ _ _ _ _ _ _ _ _ _ _ _ _ _ _ _ _ _ _ _ _ _ _ _ _ _ _ _ _ _ _ _ _ _ _ _ _ _ _ _ _ _ _ _ _ _ _ _ _ _ _ _ _ _ _ _ _ _ _ _ _ _ _ _ _ _ _ _ _ _ _ _ _ _ _ _ _ _ _ _ _ _ _ _ _ _ _ _ _ _ _ _ _ _ _ _ _ _ _ _ _ _ _ _ _ _ _ _ _ _ _ _ _ _ _ _ _ _ _ _ _ _ _ _ _ _ _ _ _ _ _ _ _ _ _ _ _ _ _ _ _ _ _ _ _ _ _ _ _ _ _ _ _ _ _ _ _ _ _ _ _ _ _ _ _ _ _ _ _ _ _ _ _ _ _ _ _ _ ?_
      intro xu10 xu20 xu21 xu22 xu24 xu25 xu26 xu27 xu28 xu29 xu30 xu31 xu32 xu33 xu34 xu35 xu36 xu37 xu38 xu39 xu40 xu99 xu100 xu101 xu102 xu103 xu104 xu105 xu106 xu107 xu108 xu109 xu110 xu111 xu112 xu113 xu114 xu115 xu116 xu117 xu118 xu119 xu120 xu121 xu122 xu123 xu124 xu125 xu126 xu127 xu128 xu129 xu130 xu131 xu132 xu133 xu134 xu135 xu136 xu137 xu138 xu139 xu140 xu141 xu142 xu143 xu144 xu145 xu146 xu147 xu148 xu149 xu150 xu151 xu152 xu153 xu154 xu155 xu156 xu157 xu158 xu159 xu160 xu161 xu162 xu163 xu164 xu165 xu166 xu167 xu168 xu169 xu170 xu171 xu172 xu173 xu174 xu175 xu176 xu177 xu178 xu179 xu180 xu181 xu182 xu183 xu184 xu185 xu186 xu187 xu188 xu189 xu190 xu191 xu192 xu193 xu194 xu195 xu196 xu197 xu198 xu199 xu200 xu201 xu202 xu203 xu204 xu205 xu206 xu207 xu208 xu209 xu210 xu211 xu212 xu213 xu214 xu215 xu216 xu217 xu218 xu219 xu220 xu221 xu222 xu223 xu224 xu225 xu226 xu227 xu228 xu229 xu230 xu231 xu232 xu233 xu234 xu235 xu236 xu237 xu238 xu239 xu240 xu241 xu242 xu243 xu244 xu245 xu246 xu247 xu248 xu249 xu250 xu251 xu252 xu253 xu254 xu255 xu256 xu257 xu258 xu259 xu260 xu261 xu262 xu263 xu264 xu265 xu266 xu267 xu268 xu269 xu270 xu271 xu272 xu273 xu274 xu275 xu276 xu277 xu278 xu279 xu280 xu281 xu282 xu283 xu284 xu285 xu286 xu287 xu288 xu289 xu290 xu291 xu292 xu293 xu294 xu295 xu296 xu297 xu298 xu299 xu300 xu301 xu302 xu303 xu304 xu305 xu306 xu307 xu308 xu309 xu310 xu311 xu312 xu313 xu314 xu315 xu316 xu317 xu318 xu319 xu320 xu321 xu322 xu323 xu324 xu325 xu326 xu327 xu328 xu329 xu330 xu331 xu332 xu333 xu334 xu335 xu336 xu337 xu338 xu339 wd
      rintro ⟨at2, S8, j8, gd8, cd8, gm8, cm8, os8, ms8, rfl, rfl, rfl, hat8, HK8⟩
      clear HK
      go_wp2
      go_roundw
      case rel => exact ⟨r + 1, at2, S8, j8, gd8, cd8, gm8, cm8, os8, ms8, rfl, rfl, rfl, by go_num, by omega, hat8, HK8.out⟩
      case measure => simp [intOf]; omega
    · by_cases hr3 : r ≤ n3
      · have hr3z : (r : Int) ≤ n3 := by omega
        have hr4z : ¬ (r : Int) < 4 := by omega
        clear hlt
        go_wp2
        go_meet
        exact hide HK.out.1.lo
      · have hr3z : ¬ (r : Int) ≤ n3 := by omega
        clear hlt
        go_wp2
        go_meet
        exact hide HK.out.1.lo
end Go.Proofs.YtgnpffkfbacejaaGreatDoor.LogKeeps
