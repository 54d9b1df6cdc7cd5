/-
  A part of the walk of stairlaw3.LogKeeps: the inner loop.
-/
import Derived.Test.YtgnpffkfbacejaaGreatDoorQLogKeepsE
namespace Go.Proofs.YtgnpffkfbacejaaGreatDoor.LogKeeps
open Go.ChangeShapes Go.WideShapes Go.ChangeAt Go.RowKit
open Go.Proofs.YtgnpffkfbacejaaGreatDoor.M Go.Proofs.YtgnpffkfbacejaaGreatDoor.Log
set_option linter.unusedVariables false

set_option maxRecDepth 20000 in
set_option maxHeartbeats 200000000 in
theorem inner : InnerSt := by
  intro e0 he0 Lg HLL HRL HSL HBL HSF a0 a1 a2 a3 a4 n0 n1 n2 n3 n4 c0 c1 c2 c3 c4 p w wc ns ls ys HG HN0 HM0 HR0 HZ0 HN1 HR1 HN2 HR2 hm0' hm1' hm2' AL at' gd cd gm cm os ms S j hat HK t5 t6 t7 t8 t9 t10 t11 t12 t13 t14 t15 t16 t17 t18 t23 t25 t26 t27 t28 t29 t30 t31 t32 t33 t34 t35 t36 t37 t38 t39 t40 t41 t42 t43 t44 t45 t46 t47 t48 t49 t50 t51 t52 t53 t54 t55 t56 t57 t58 t59 t60 t61 t62 t63 t64 t65 t66 t67 t68 t69 t70 t71 t72 t73 t74 t75 t76 t77 t78 t79 t80 t81 t82 t83 t84 t85 t86 t87 t88 t89 t90 t91 t92 t93 t94 t95 t96 t97 t98 t99 t100 t101 t102 t103 t104 t105 t106 t107 t108 t109 t110 t111 t112 t113 t114 t115 t116 t117 t118 t119 t120 t121 t122 t123 t124 t125 t126 t127 t128 t129 t130 t131 t132 t133 t134 t135 t136 t137 t138 t139 t140 t141 t142 t143 t144 t145 t146 t147 t148 t149 t150 t151 t152 t153 t154 t155 t156 t157 t158 t159 t160 t161 t162 t163 t164 t165 t166 t167 t168 t169 t170 t171 t172 t173 t174 t175 t176 t177 t178 t179 t180 t181 t182 t183 t184 t185 t186 t187 t188 t189 t190 t191 t192 t193 t194 t195 t196 t197 t198 t199 t200 t201 t202 t203 t204 t205 t206 t207 t208 t209 t210 t211 t212 t213 t214 t215 t216 t217 t218 t219 t220 t221 t222 t223 t224 t225 t226 t227 t228 t229 t230 t231 t232 t233 t234 t235 t236 t237 t238 t239 t240 t241 t242 t243 t244 t245 t246 t247 t248 t249 t250 t251 t252 t253 t254 t255 t256 t257 t258 t259 t260 t261 t262 t263 t264 t265 t266 t267 t268 t269 t270 t271 t272 t273 t274 t275 t276 t277 t278 t279 t280 t281 t282 t283 t284 t285 t286 t287 t288 t289 t290 t291 t292 t293 t294 t295 t296 t297 t298 t299 t300 t301 t302 t303 t304 t305 t306 t307 t308 t309 t310 t311 t312 t313 t314 t315 t316 t317 t318 t319 t320 t321 t322 t323 t324 t325 t326 t327 t328 t329 t330 t331 t332 t333 t334 t335 t336 t337 t338 t339
  change some _ = some e0 at he0
  obtain rfl := Option.some.inj he0
  clear he0
  refine wp_again ?_
  intro J0 K0 hJ0 hK0
  go_wp2_with (fail)
  go_loopw [20, 21, 22, 24, 25, 26, 27, 28, 29, 30, 31, 32, 33] (fun s20 s21 s22 s24 _ _ _ _ _ _ _ _ _ wr => ∃ (k at' : Nat) (S : Nat → Prop) (j : LS) (gd cd gm cm : Nat) (os : List Ob) (ms : List Nat), s20 = .slice (some ⟨gd, 0, none⟩) os.length cd ∧ s21 = .slice (some ⟨gm, 0, none⟩) ms.length cm ∧ s22 = .int .i64 at' ∧ s24 = .int .i64 k ∧ k ≤ 12 ∧ at' ≤ n1 ∧ Hid (RK HLL.out w p S j gd cd gm cm os ms wr)) (fun _ _ _ s24 _ _ _ _ _ _ _ _ _ _ => 12 - (intOf s24).toNat)
  case atStart => exact ⟨0, at', S, j, gd, cd, gm, cm, os, ms, rfl, rfl, rfl, rfl, by omega, hat, HK.out⟩
  case round =>
    clear HK
    obtain ⟨k, at', S, j, gd, cd, gm, cm, os, ms, rfl, rfl, rfl, rfl, hk12, hat, HK⟩ := hrel
    by_cases hk : k < 12
    · have hkz : (k : Int) < 12 := by omega
      by_cases h1 : at' < n1
      · have h1z : (at' : Int) < n1 := by omega
        by_cases h0 : at' < n0
        · have h0z : (at' : Int) < n0 := by omega
          go_upto_block 3 with (fail)
          refine bodyk _ (by kernel_rfl) Lg HLL HRL HSL HBL HSF a0 a1 a2 a3 a4 n0 n1 n2 n3 n4 c0 c1 c2 c3 c4 p w (_) ns ls ys HG HN0 HM0 HR0 HZ0 HN1 HR1 HN2 HR2 hm0' hm1' hm2' AL at' gd cd gm cm os ms S j h0 h1 HK _ _ _ _ _ _ _ _ _ _ _ _ _ _ _ _ _ _ _ _ _ _ _ _ _ _ _ _ _ _ _ _ _ _ _ _ _ _ _ _ _ _ _ _ _ _ _ _ _ _ _ _ _ _ _ _ _ _ _ _ _ _ _ _ _ _ _ _ _ _ _ _ _ _ _ _ _ _ _ _ _ _ _ _ _ _ _ _ _ _ _ _ _ _ _ _ _ _ _ _ _ _ _ _ _ _ _ _ _ _ _ _ _ _ _ _ _ _ _ _ _ _ _ _ _ _ _ _ _ _ _ _ _ _ _ _ _ _ _ _ _ _ _ _ _ _ _ _ _ _ _ _ _ _ _ _ _ _ _ _ _ _ _ _ _ _ _ _ _ _ _ _ _ _ _ _ _ _ _ _ _ _ _ _ _ _ _ _ _ _ _ _ _ _ _ _ _ _ _ _ _ _ _ _ _ _ _ _ _ _ _ _ _ _ _ _ _ _ _ _ _ _ _ _ _ _ _ _ _ _ _ _ _ _ _ _ _ _ _ _ _ _ _ _ _ _ _ _ _ _ _ _ _ _ _ _ _ _ _ _ _ _ _ _ _ _ _ _ _ _ _ _ _ _ _ _ _ _ _ _ _ _ _ _ _ _ _ _ _ _ _ _ _ _ _ _ _ _ _ _ _ _ _ _ _ _ _ _ _ _ _ _ _ _ _ _ _ _ _ _ _ _ _ _ _ _ _ _ _ _ _ ?_
          intro xu10 xu20 xu21 xu22 xu25 xu26 xu27 xu28 xu29 xu30 xu31 xu32 xu33 xu119 xu120 xu121 xu122 xu123 xu124 xu125 xu126 xu127 xu128 xu129 xu130 xu131 xu132 xu133 xu134 xu135 xu136 xu137 xu138 xu139 xu140 xu141 xu142 xu143 xu144 xu145 xu146 xu147 xu148 xu149 xu150 xu151 xu152 xu153 xu154 xu155 xu156 xu157 xu158 xu159 xu160 xu161 xu162 xu163 xu164 xu165 xu166 xu167 xu168 xu169 xu170 xu171 xu172 xu173 xu174 xu175 xu176 xu177 xu178 xu179 xu180 xu181 xu182 xu183 xu184 xu185 xu186 xu187 xu188 xu189 xu190 xu191 xu192 xu193 xu194 xu195 xu196 xu197 xu198 xu199 xu200 xu201 xu202 xu203 xu204 xu205 xu206 xu207 xu208 xu209 xu210 xu211 xu212 xu213 xu214 xu215 xu216 xu217 xu218 xu219 xu220 xu221 xu222 xu223 xu224 xu225 xu226 xu227 xu228 xu229 xu230 xu231 xu232 xu233 xu234 xu235 xu236 xu237 xu238 xu239 xu240 xu241 xu242 xu243 xu244 xu245 xu246 xu247 xu248 xu249 xu250 xu251 xu252 xu253 xu254 xu255 xu256 xu257 xu258 xu259 xu260 wd
          rintro ⟨S8, j8, gd8, cd8, gm8, cm8, os8, ms8, rfl, rfl, rfl, HK8⟩
          clear HK
          go_wp2
          go_roundw
          case rel => exact ⟨k + 1, at' + 1, S8, j8, gd8, cd8, gm8, cm8, os8, ms8, rfl, rfl, by go_num, by go_num, by omega, by omega, HK8.out⟩
          case measure => simp [intOf]; omega
        · have h0z : ¬ (at' : Int) < n0 := by omega
          go_wp2
          go_meet
          exact ⟨at', S, j, gd, cd, gm, cm, os, ms, rfl, rfl, rfl, hat, HK⟩
      · have h1z : ¬ (at' : Int) < n1 := by omega
        go_wp2
        go_meet
        exact ⟨at', S, j, gd, cd, gm, cm, os, ms, rfl, rfl, rfl, hat, HK⟩
    · have hkz : ¬ (k : Int) < 12 := by omega
      go_wp2
      go_meet
      exact ⟨at', S, j, gd, cd, gm, cm, os, ms, rfl, rfl, rfl, hat, HK⟩
set_option maxRecDepth 20000 in
set_option maxHeartbeats 200000000 in
theorem s18 : S18St := by
  intro e0 he0 Lg HLL HRL HSL HBL HSF a0 a1 a2 a3 a4 n0 n1 n2 n3 n4 c0 c1 c2 c3 c4 p w wc ns ls ys HG HN0 HM0 HR0 HZ0 HN1 HR1 HN2 HR2 hm0' hm1' hm2' AL at' gd cd gm cm os ms S j hat HK t5 t6 t7 t8 t9 t10 t11 t12 t13 t14 t15 t16 t17 t18 t23 t24 t25 t26 t27 t28 t29 t30 t31 t32 t33 t34 t35 t36 t37 t38 t39 t40 t41 t42 t43 t44 t45 t46 t47 t48 t49 t50 t51 t52 t53 t54 t55 t56 t57 t58 t59 t60 t61 t62 t63 t64 t65 t66 t67 t68 t69 t70 t71 t72 t73 t74 t75 t76 t77 t78 t79 t80 t81 t82 t83 t84 t85 t86 t87 t88 t89 t90 t91 t92 t93 t94 t95 t96 t97 t98 t99 t100 t101 t102 t103 t104 t105 t106 t107 t108 t109 t110 t111 t112 t113 t114 t115 t116 t117 t118 t119 t120 t121 t122 t123 t124 t125 t126 t127 t128 t129 t130 t131 t132 t133 t134 t135 t136 t137 t138 t139 t140 t141 t142 t143 t144 t145 t146 t147 t148 t149 t150 t151 t152 t153 t154 t155 t156 t157 t158 t159 t160 t161 t162 t163 t164 t165 t166 t167 t168 t169 t170 t171 t172 t173 t174 t175 t176 t177 t178 t179 t180 t181 t182 t183 t184 t185 t186 t187 t188 t189 t190 t191 t192 t193 t194 t195 t196 t197 t198 t199 t200 t201 t202 t203 t204 t205 t206 t207 t208 t209 t210 t211 t212 t213 t214 t215 t216 t217 t218 t219 t220 t221 t222 t223 t224 t225 t226 t227 t228 t229 t230 t231 t232 t233 t234 t235 t236 t237 t238 t239 t240 t241 t242 t243 t244 t245 t246 t247 t248 t249 t250 t251 t252 t253 t254 t255 t256 t257 t258 t259 t260 t261 t262 t263 t264 t265 t266 t267 t268 t269 t270 t271 t272 t273 t274 t275 t276 t277 t278 t279 t280 t281 t282 t283 t284 t285 t286 t287 t288 t289 t290 t291 t292 t293 t294 t295 t296 t297 t298 t299 t300 t301 t302 t303 t304 t305 t306 t307 t308 t309 t310 t311 t312 t313 t314 t315 t316 t317 t318 t319 t320 t321 t322 t323 t324 t325 t326 t327 t328 t329 t330 t331 t332 t333 t334 t335 t336 t337 t338 t339
  change some _ = some e0 at he0
  obtain rfl := Option.some.inj he0
  clear he0
  refine wp_again ?_
  intro J0 K0 hJ0 hK0
  go_upto_block 2 with (fail)
  refine wp_own hJ0 hK0 ?_
  exact inner _ (by kernel_rfl) Lg HLL HRL HSL HBL HSF a0 a1 a2 a3 a4 n0 n1 n2 n3 n4 c0 c1 c2 c3 c4 p w (_) ns ls ys HG HN0 HM0 HR0 HZ0 HN1 HR1 HN2 HR2 hm0' hm1' hm2' AL at' gd cd gm cm os ms S j hat HK _ _ _ _ _ _ _ _ _ _ _ _ _ _ _ _ _ _ _ _ _ _ _ _ _ _ _ _ _ _ _ _ _ _ _ _ _ _ _ _ _ _ _ _ _ _ _ _ _ _ _ _ _ _ _ _ _ _ _ _ _ _ _ _ _ _ _ _ _ _ _ _ _ _ _ _ _ _ _ _ _ _ _ _ _ _ _ _ _ _ _ _ _ _ _ _ _ _ _ _ _ _ _ _ _ _ _ _ _ _ _ _ _ _ _ _ _ _ _ _ _ _ _ _ _ _ _ _ _ _ _ _ _ _ _ _ _ _ _ _ _ _ _ _ _ _ _ _ _ _ _ _ _ _ _ _ _ _ _ _ _ _ _ _ _ _ _ _ _ _ _ _ _ _ _ _ _ _ _ _ _ _ _ _ _ _ _ _ _ _ _ _ _ _ _ _ _ _ _ _ _ _ _ _ _ _ _ _ _ _ _ _ _ _ _ _ _ _ _ _ _ _ _ _ _ _ _ _ _ _ _ _ _ _ _ _ _ _ _ _ _ _ _ _ _ _ _ _ _ _ _ _ _ _ _ _ _ _ _ _ _ _ _ _ _ _ _ _ _ _ _ _ _ _ _ _ _ _ _ _ _ _ _ _ _ _ _ _ _ _ _ _ _ _ _ _ _ _ _ _ _ _ _ _ _ _ _ _ _ _ _ _ _ _ _ _ _ _ _ _ _ _ _ _ _ _ _ _ _ _
set_option maxRecDepth 100000 in
theorem s18k : ∀ (e0 : Code) (he0 : Tryz.f3.body.bind (stmtAt 18) = some e0) (Lg : World → Nat → Value → (Nat → Prop) → LS → Prop) (HLL : Hid (Core Lg)) (HRL : Hid (RaiseLaw Lg)) (HSL : Hid (SyncLaw Lg)) (HBL : Hid (BytesLaw Lg)) (HSF : Hid (SafeLaw Lg)) (a0 a1 a2 a3 a4 : Option Addr) (n0 n1 n2 n3 n4 c0 c1 c2 c3 c4 : Nat) (p : Value) (w wc : World) (ns : List ByteArray) (ls ys : List Int) (HG : Hid (∀ (W : World), Below w.heap.size w W → As.Handle W ∧ Image.Has W)) (HN0 : Hid (n0 = ns.length)) (HM0 : Hid (n0 ≤ maxLen)) (HR0 : Hid (RRow 1 txtV w a0 ns)) (HZ0 : Hid (∀ s ∈ ns, s.size ≤ 140737488351232)) (HN1 : Hid (n1 = ls.length)) (HR1 : Hid (Row w a1 ls)) (HN2 : Hid (n2 = ys.length)) (HR2 : Hid (Row w a2 ys)) (hm0' : n0 ≤ 9223372036854775807) (hm1' : n1 ≤ 9223372036854775807) (hm2' : n2 ≤ 9223372036854775807) (AL : Hid (∀ (p : Value) (S : Nat → Prop) (j : LS) (g : Nat) (v : Value) (cs : Cs) (W : World), Below w.heap.size w W → Lg W w.heap.size p S j → CntRef.CIs W w.heap.size g v cs → j.f = CntRef.ofC cs →
      Calls Tryz.prog 16 #[p, .pointer (some ⟨g, 0, none⟩), .slice a0 n0 c0] W fun e w' => e = .returned (.bool true) ∧ Below W.heap.size W w')) (at' : Nat) (gd cd gm cm : Nat) (os : List Ob) (ms : List Nat) (S : Nat → Prop) (j : LS) (hat : at' ≤ n1) (HK : Hid (RK HLL.out w p S j gd cd gm cm os ms wc))
    (t5 t6 t7 t8 t9 t10 t11 t12 t13 t14 t15 t16 t17 t18 t23 t24 t25 t26 t27 t28 t29 t30 t31 t32 t33 t34 t35 t36 t37 t38 t39 t40 t41 t42 t43 t44 t45 t46 t47 t48 t49 t50 t51 t52 t53 t54 t55 t56 t57 t58 t59 t60 t61 t62 t63 t64 t65 t66 t67 t68 t69 t70 t71 t72 t73 t74 t75 t76 t77 t78 t79 t80 t81 t82 t83 t84 t85 t86 t87 t88 t89 t90 t91 t92 t93 t94 t95 t96 t97 t98 t99 t100 t101 t102 t103 t104 t105 t106 t107 t108 t109 t110 t111 t112 t113 t114 t115 t116 t117 t118 t119 t120 t121 t122 t123 t124 t125 t126 t127 t128 t129 t130 t131 t132 t133 t134 t135 t136 t137 t138 t139 t140 t141 t142 t143 t144 t145 t146 t147 t148 t149 t150 t151 t152 t153 t154 t155 t156 t157 t158 t159 t160 t161 t162 t163 t164 t165 t166 t167 t168 t169 t170 t171 t172 t173 t174 t175 t176 t177 t178 t179 t180 t181 t182 t183 t184 t185 t186 t187 t188 t189 t190 t191 t192 t193 t194 t195 t196 t197 t198 t199 t200 t201 t202 t203 t204 t205 t206 t207 t208 t209 t210 t211 t212 t213 t214 t215 t216 t217 t218 t219 t220 t221 t222 t223 t224 t225 t226 t227 t228 t229 t230 t231 t232 t233 t234 t235 t236 t237 t238 t239 t240 t241 t242 t243 t244 t245 t246 t247 t248 t249 t250 t251 t252 t253 t254 t255 t256 t257 t258 t259 t260 t261 t262 t263 t264 t265 t266 t267 t268 t269 t270 t271 t272 t273 t274 t275 t276 t277 t278 t279 t280 t281 t282 t283 t284 t285 t286 t287 t288 t289 t290 t291 t292 t293 t294 t295 t296 t297 t298 t299 t300 t301 t302 t303 t304 t305 t306 t307 t308 t309 t310 t311 t312 t313 t314 t315 t316 t317 t318 t319 t320 t321 t322 t323 t324 t325 t326 t327 t328 t329 t330 t331 t332 t333 t334 t335 t336 t337 t338 t339 : Value) {rc : Code} {Qc : Exit → Act → World → Prop} (hr : ∀ (u10 u20 u21 u22 u24 u25 u26 u27 u28 u29 u30 u31 u32 u33 u99 u100 u101 u102 u103 u104 u105 u106 u107 u108 u109 u110 u111 u112 u113 u114 u115 u116 u117 u118 u119 u120 u121 u122 u123 u124 u125 u126 u127 u128 u129 u130 u131 u132 u133 u134 u135 u136 u137 u138 u139 u140 u141 u142 u143 u144 u145 u146 u147 u148 u149 u150 u151 u152 u153 u154 u155 u156 u157 u158 u159 u160 u161 u162 u163 u164 u165 u166 u167 u168 u169 u170 u171 u172 u173 u174 u175 u176 u177 u178 u179 u180 u181 u182 u183 u184 u185 u186 u187 u188 u189 u190 u191 u192 u193 u194 u195 u196 u197 u198 u199 u200 u201 u202 u203 u204 u205 u206 u207 u208 u209 u210 u211 u212 u213 u214 u215 u216 u217 u218 u219 u220 u221 u222 u223 u224 u225 u226 u227 u228 u229 u230 u231 u232 u233 u234 u235 u236 u237 u238 u239 u240 u241 u242 u243 u244 u245 u246 u247 u248 u249 u250 u251 u252 u253 u254 u255 u256 u257 u258 u259 u260 u261 u262 u263 u264 u265 u266 u267 u268 u269 u270 u271 u272 u273 u274 u275 u276 u277 u278 u279 u280 u281 u282 u283 u284 u285 u286 u287 u288 u289 u290 u291 u292 u293 u294 u295 u296 u297 u298 u299 u300 u301 u302 u303 u304 u305 u306 u307 u308 u309 u310 u311 u312 u313 u314 u315 u316 u317 u318 u319 u320 u321 u322 u323 u324 u325 u326 u327 u328 u329 u330 u331 u332 u333 u334 u335 u336 u337 u338 u339 : Value) (w' : World), (∃ (at' : Nat) (S : Nat → Prop) (j : LS) (gd cd gm cm : Nat) (os : List Ob) (ms : List Nat), u20 = .slice (some ⟨gd, 0, none⟩) os.length cd ∧ u21 = .slice (some ⟨gm, 0, none⟩) ms.length cm ∧ u22 = .int .i64 at' ∧ at' ≤ n1 ∧ Hid (RK HLL.out w p S j gd cd gm cm os ms w')) → rc.wp Tryz.prog Qc { tmps := List.toArray (.slice a0 n0 c0 :: .slice a1 n1 c1 :: .slice a2 n2 c2 :: .slice a3 n3 c3 :: .slice a4 n4 c4 :: t5 :: t6 :: t7 :: t8 :: t9 :: u10 :: t11 :: t12 :: t13 :: t14 :: t15 :: t16 :: t17 :: t18 :: p :: u20 :: u21 :: u22 :: t23 :: u24 :: u25 :: u26 :: u27 :: u28 :: u29 :: u30 :: u31 :: u32 :: u33 :: t34 :: t35 :: t36 :: t37 :: t38 :: t39 :: t40 :: t41 :: t42 :: t43 :: t44 :: t45 :: t46 :: t47 :: t48 :: t49 :: t50 :: t51 :: t52 :: t53 :: t54 :: t55 :: t56 :: t57 :: t58 :: t59 :: t60 :: t61 :: t62 :: t63 :: t64 :: t65 :: t66 :: t67 :: t68 :: t69 :: t70 :: t71 :: t72 :: t73 :: t74 :: t75 :: t76 :: t77 :: t78 :: t79 :: t80 :: t81 :: t82 :: t83 :: t84 :: t85 :: t86 :: t87 :: t88 :: t89 :: t90 :: t91 :: t92 :: t93 :: t94 :: t95 :: t96 :: t97 :: t98 :: u99 :: u100 :: u101 :: u102 :: u103 :: u104 :: u105 :: u106 :: u107 :: u108 :: u109 :: u110 :: u111 :: u112 :: u113 :: u114 :: u115 :: u116 :: u117 :: u118 :: u119 :: u120 :: u121 :: u122 :: u123 :: u124 :: u125 :: u126 :: u127 :: u128 :: u129 :: u130 :: u131 :: u132 :: u133 :: u134 :: u135 :: u136 :: u137 :: u138 :: u139 :: u140 :: u141 :: u142 :: u143 :: u144 :: u145 :: u146 :: u147 :: u148 :: u149 :: u150 :: u151 :: u152 :: u153 :: u154 :: u155 :: u156 :: u157 :: u158 :: u159 :: u160 :: u161 :: u162 :: u163 :: u164 :: u165 :: u166 :: u167 :: u168 :: u169 :: u170 :: u171 :: u172 :: u173 :: u174 :: u175 :: u176 :: u177 :: u178 :: u179 :: u180 :: u181 :: u182 :: u183 :: u184 :: u185 :: u186 :: u187 :: u188 :: u189 :: u190 :: u191 :: u192 :: u193 :: u194 :: u195 :: u196 :: u197 :: u198 :: u199 :: u200 :: u201 :: u202 :: u203 :: u204 :: u205 :: u206 :: u207 :: u208 :: u209 :: u210 :: u211 :: u212 :: u213 :: u214 :: u215 :: u216 :: u217 :: u218 :: u219 :: u220 :: u221 :: u222 :: u223 :: u224 :: u225 :: u226 :: u227 :: u228 :: u229 :: u230 :: u231 :: u232 :: u233 :: u234 :: u235 :: u236 :: u237 :: u238 :: u239 :: u240 :: u241 :: u242 :: u243 :: u244 :: u245 :: u246 :: u247 :: u248 :: u249 :: u250 :: u251 :: u252 :: u253 :: u254 :: u255 :: u256 :: u257 :: u258 :: u259 :: u260 :: u261 :: u262 :: u263 :: u264 :: u265 :: u266 :: u267 :: u268 :: u269 :: u270 :: u271 :: u272 :: u273 :: u274 :: u275 :: u276 :: u277 :: u278 :: u279 :: u280 :: u281 :: u282 :: u283 :: u284 :: u285 :: u286 :: u287 :: u288 :: u289 :: u290 :: u291 :: u292 :: u293 :: u294 :: u295 :: u296 :: u297 :: u298 :: u299 :: u300 :: u301 :: u302 :: u303 :: u304 :: u305 :: u306 :: u307 :: u308 :: u309 :: u310 :: u311 :: u312 :: u313 :: u314 :: u315 :: u316 :: u317 :: u318 :: u319 :: u320 :: u321 :: u322 :: u323 :: u324 :: u325 :: u326 :: u327 :: u328 :: u329 :: u330 :: u331 :: u332 :: u333 :: u334 :: u335 :: u336 :: u337 :: u338 :: u339 :: []), defers := [] } w'),
    (Code.seq e0 rc).wp Tryz.prog Qc { tmps := List.toArray (.slice a0 n0 c0 :: .slice a1 n1 c1 :: .slice a2 n2 c2 :: .slice a3 n3 c3 :: .slice a4 n4 c4 :: t5 :: t6 :: t7 :: t8 :: t9 :: t10 :: t11 :: t12 :: t13 :: t14 :: t15 :: t16 :: t17 :: t18 :: p :: .slice (some ⟨gd, 0, none⟩) os.length cd :: .slice (some ⟨gm, 0, none⟩) ms.length cm :: .int .i64 at' :: t23 :: t24 :: t25 :: t26 :: t27 :: t28 :: t29 :: t30 :: t31 :: t32 :: t33 :: t34 :: t35 :: t36 :: t37 :: t38 :: t39 :: t40 :: t41 :: t42 :: t43 :: t44 :: t45 :: t46 :: t47 :: t48 :: t49 :: t50 :: t51 :: t52 :: t53 :: t54 :: t55 :: t56 :: t57 :: t58 :: t59 :: t60 :: t61 :: t62 :: t63 :: t64 :: t65 :: t66 :: t67 :: t68 :: t69 :: t70 :: t71 :: t72 :: t73 :: t74 :: t75 :: t76 :: t77 :: t78 :: t79 :: t80 :: t81 :: t82 :: t83 :: t84 :: t85 :: t86 :: t87 :: t88 :: t89 :: t90 :: t91 :: t92 :: t93 :: t94 :: t95 :: t96 :: t97 :: t98 :: t99 :: t100 :: t101 :: t102 :: t103 :: t104 :: t105 :: t106 :: t107 :: t108 :: t109 :: t110 :: t111 :: t112 :: t113 :: t114 :: t115 :: t116 :: t117 :: t118 :: t119 :: t120 :: t121 :: t122 :: t123 :: t124 :: t125 :: t126 :: t127 :: t128 :: t129 :: t130 :: t131 :: t132 :: t133 :: t134 :: t135 :: t136 :: t137 :: t138 :: t139 :: t140 :: t141 :: t142 :: t143 :: t144 :: t145 :: t146 :: t147 :: t148 :: t149 :: t150 :: t151 :: t152 :: t153 :: t154 :: t155 :: t156 :: t157 :: t158 :: t159 :: t160 :: t161 :: t162 :: t163 :: t164 :: t165 :: t166 :: t167 :: t168 :: t169 :: t170 :: t171 :: t172 :: t173 :: t174 :: t175 :: t176 :: t177 :: t178 :: t179 :: t180 :: t181 :: t182 :: t183 :: t184 :: t185 :: t186 :: t187 :: t188 :: t189 :: t190 :: t191 :: t192 :: t193 :: t194 :: t195 :: t196 :: t197 :: t198 :: t199 :: t200 :: t201 :: t202 :: t203 :: t204 :: t205 :: t206 :: t207 :: t208 :: t209 :: t210 :: t211 :: t212 :: t213 :: t214 :: t215 :: t216 :: t217 :: t218 :: t219 :: t220 :: t221 :: t222 :: t223 :: t224 :: t225 :: t226 :: t227 :: t228 :: t229 :: t230 :: t231 :: t232 :: t233 :: t234 :: t235 :: t236 :: t237 :: t238 :: t239 :: t240 :: t241 :: t242 :: t243 :: t244 :: t245 :: t246 :: t247 :: t248 :: t249 :: t250 :: t251 :: t252 :: t253 :: t254 :: t255 :: t256 :: t257 :: t258 :: t259 :: t260 :: t261 :: t262 :: t263 :: t264 :: t265 :: t266 :: t267 :: t268 :: t269 :: t270 :: t271 :: t272 :: t273 :: t274 :: t275 :: t276 :: t277 :: t278 :: t279 :: t280 :: t281 :: t282 :: t283 :: t284 :: t285 :: t286 :: t287 :: t288 :: t289 :: t290 :: t291 :: t292 :: t293 :: t294 :: t295 :: t296 :: t297 :: t298 :: t299 :: t300 :: t301 :: t302 :: t303 :: t304 :: t305 :: t306 :: t307 :: t308 :: t309 :: t310 :: t311 :: t312 :: t313 :: t314 :: t315 :: t316 :: t317 :: t318 :: t319 :: t320 :: t321 :: t322 :: t323 :: t324 :: t325 :: t326 :: t327 :: t328 :: t329 :: t330 :: t331 :: t332 :: t333 :: t334 :: t335 :: t336 :: t337 :: t338 :: t339 :: []), defers := [] } wc := by
  intro e0 he0 Lg HLL HRL HSL HBL HSF a0 a1 a2 a3 a4 n0 n1 n2 n3 n4 c0 c1 c2 c3 c4 p w wc ns ls ys HG HN0 HM0 HR0 HZ0 HN1 HR1 HN2 HR2 hm0' hm1' hm2' AL at' gd cd gm cm os ms S j hat HK t5 t6 t7 t8 t9 t10 t11 t12 t13 t14 t15 t16 t17 t18 t23 t24 t25 t26 t27 t28 t29 t30 t31 t32 t33 t34 t35 t36 t37 t38 t39 t40 t41 t42 t43 t44 t45 t46 t47 t48 t49 t50 t51 t52 t53 t54 t55 t56 t57 t58 t59 t60 t61 t62 t63 t64 t65 t66 t67 t68 t69 t70 t71 t72 t73 t74 t75 t76 t77 t78 t79 t80 t81 t82 t83 t84 t85 t86 t87 t88 t89 t90 t91 t92 t93 t94 t95 t96 t97 t98 t99 t100 t101 t102 t103 t104 t105 t106 t107 t108 t109 t110 t111 t112 t113 t114 t115 t116 t117 t118 t119 t120 t121 t122 t123 t124 t125 t126 t127 t128 t129 t130 t131 t132 t133 t134 t135 t136 t137 t138 t139 t140 t141 t142 t143 t144 t145 t146 t147 t148 t149 t150 t151 t152 t153 t154 t155 t156 t157 t158 t159 t160 t161 t162 t163 t164 t165 t166 t167 t168 t169 t170 t171 t172 t173 t174 t175 t176 t177 t178 t179 t180 t181 t182 t183 t184 t185 t186 t187 t188 t189 t190 t191 t192 t193 t194 t195 t196 t197 t198 t199 t200 t201 t202 t203 t204 t205 t206 t207 t208 t209 t210 t211 t212 t213 t214 t215 t216 t217 t218 t219 t220 t221 t222 t223 t224 t225 t226 t227 t228 t229 t230 t231 t232 t233 t234 t235 t236 t237 t238 t239 t240 t241 t242 t243 t244 t245 t246 t247 t248 t249 t250 t251 t252 t253 t254 t255 t256 t257 t258 t259 t260 t261 t262 t263 t264 t265 t266 t267 t268 t269 t270 t271 t272 t273 t274 t275 t276 t277 t278 t279 t280 t281 t282 t283 t284 t285 t286 t287 t288 t289 t290 t291 t292 t293 t294 t295 t296 t297 t298 t299 t300 t301 t302 t303 t304 t305 t306 t307 t308 t309 t310 t311 t312 t313 t314 t315 t316 t317 t318 t319 t320 t321 t322 t323 t324 t325 t326 t327 t328 t329 t330 t331 t332 t333 t334 t335 t336 t337 t338 t339 rc Qc hr
  refine wp_two (s18 e0 he0 Lg HLL HRL HSL HBL HSF a0 a1 a2 a3 a4 n0 n1 n2 n3 n4 c0 c1 c2 c3 c4 p w wc ns ls ys HG HN0 HM0 HR0 HZ0 HN1 HR1 HN2 HR2 hm0' hm1' hm2' AL at' gd cd gm cm os ms S j hat HK t5 t6 t7 t8 t9 t10 t11 t12 t13 t14 t15 t16 t17 t18 t23 t24 t25 t26 t27 t28 t29 t30 t31 t32 t33 t34 t35 t36 t37 t38 t39 t40 t41 t42 t43 t44 t45 t46 t47 t48 t49 t50 t51 t52 t53 t54 t55 t56 t57 t58 t59 t60 t61 t62 t63 t64 t65 t66 t67 t68 t69 t70 t71 t72 t73 t74 t75 t76 t77 t78 t79 t80 t81 t82 t83 t84 t85 t86 t87 t88 t89 t90 t91 t92 t93 t94 t95 t96 t97 t98 t99 t100 t101 t102 t103 t104 t105 t106 t107 t108 t109 t110 t111 t112 t113 t114 t115 t116 t117 t118 t119 t120 t121 t122 t123 t124 t125 t126 t127 t128 t129 t130 t131 t132 t133 t134 t135 t136 t137 t138 t139 t140 t141 t142 t143 t144 t145 t146 t147 t148 t149 t150 t151 t152 t153 t154 t155 t156 t157 t158 t159 t160 t161 t162 t163 t164 t165 t166 t167 t168 t169 t170 t171 t172 t173 t174 t175 t176 t177 t178 t179 t180 t181 t182 t183 t184 t185 t186 t187 t188 t189 t190 t191 t192 t193 t194 t195 t196 t197 t198 t199 t200 t201 t202 t203 t204 t205 t206 t207 t208 t209 t210 t211 t212 t213 t214 t215 t216 t217 t218 t219 t220 t221 t222 t223 t224 t225 t226 t227 t228 t229 t230 t231 t232 t233 t234 t235 t236 t237 t238 t239 t240 t241 t242 t243 t244 t245 t246 t247 t248 t249 t250 t251 t252 t253 t254 t255 t256 t257 t258 t259 t260 t261 t262 t263 t264 t265 t266 t267 t268 t269 t270 t271 t272 t273 t274 t275 t276 t277 t278 t279 t280 t281 t282 t283 t284 t285 t286 t287 t288 t289 t290 t291 t292 t293 t294 t295 t296 t297 t298 t299 t300 t301 t302 t303 t304 t305 t306 t307 t308 t309 t310 t311 t312 t313 t314 t315 t316 t317 t318 t319 t320 t321 t322 t323 t324 t325 t326 t327 t328 t329 t330 t331 t332 t333 t334 t335 t336 t337 t338 t339) ?_
  intro a' w' hinv
  obtain ⟨u10, hinv⟩ := hinv
  obtain ⟨u20, hinv⟩ := hinv
  obtain ⟨u21, hinv⟩ := hinv
  obtain ⟨u22, hinv⟩ := hinv
  obtain ⟨u24, hinv⟩ := hinv
  obtain ⟨u25, hinv⟩ := hinv
  obtain ⟨u26, hinv⟩ := hinv
  obtain ⟨u27, hinv⟩ := hinv
  obtain ⟨u28, hinv⟩ := hinv
  obtain ⟨u29, hinv⟩ := hinv
  obtain ⟨u30, hinv⟩ := hinv
  obtain ⟨u31, hinv⟩ := hinv
  obtain ⟨u32, hinv⟩ := hinv
  obtain ⟨u33, hinv⟩ := hinv
  obtain ⟨u99, hinv⟩ := hinv
  obtain ⟨u100, hinv⟩ := hinv
  obtain ⟨u101, hinv⟩ := hinv
  obtain ⟨u102, hinv⟩ := hinv
  obtain ⟨u103, hinv⟩ := hinv
  obtain ⟨u104, hinv⟩ := hinv
  obtain ⟨u105, hinv⟩ := hinv
  obtain ⟨u106, hinv⟩ := hinv
  obtain ⟨u107, hinv⟩ := hinv
  obtain ⟨u108, hinv⟩ := hinv
  obtain ⟨u109, hinv⟩ := hinv
  obtain ⟨u110, hinv⟩ := hinv
  obtain ⟨u111, hinv⟩ := hinv
  obtain ⟨u112, hinv⟩ := hinv
  obtain ⟨u113, hinv⟩ := hinv
  obtain ⟨u114, hinv⟩ := hinv
  obtain ⟨u115, hinv⟩ := hinv
  obtain ⟨u116, hinv⟩ := hinv
  obtain ⟨u117, hinv⟩ := hinv
  obtain ⟨u118, hinv⟩ := hinv
  obtain ⟨u119, hinv⟩ := hinv
  obtain ⟨u120, hinv⟩ := hinv
  obtain ⟨u121, hinv⟩ := hinv
  obtain ⟨u122, hinv⟩ := hinv
  obtain ⟨u123, hinv⟩ := hinv
  obtain ⟨u124, hinv⟩ := hinv
  obtain ⟨u125, hinv⟩ := hinv
  obtain ⟨u126, hinv⟩ := hinv
  obtain ⟨u127, hinv⟩ := hinv
  obtain ⟨u128, hinv⟩ := hinv
  obtain ⟨u129, hinv⟩ := hinv
  obtain ⟨u130, hinv⟩ := hinv
  obtain ⟨u131, hinv⟩ := hinv
  obtain ⟨u132, hinv⟩ := hinv
  obtain ⟨u133, hinv⟩ := hinv
  obtain ⟨u134, hinv⟩ := hinv
  obtain ⟨u135, hinv⟩ := hinv
  obtain ⟨u136, hinv⟩ := hinv
  obtain ⟨u137, hinv⟩ := hinv
  obtain ⟨u138, hinv⟩ := hinv
  obtain ⟨u139, hinv⟩ := hinv
  obtain ⟨u140, hinv⟩ := hinv
  obtain ⟨u141, hinv⟩ := hinv
  obtain ⟨u142, hinv⟩ := hinv
  obtain ⟨u143, hinv⟩ := hinv
  obtain ⟨u144, hinv⟩ := hinv
  obtain ⟨u145, hinv⟩ := hinv
  obtain ⟨u146, hinv⟩ := hinv
  obtain ⟨u147, hinv⟩ := hinv
  obtain ⟨u148, hinv⟩ := hinv
  obtain ⟨u149, hinv⟩ := hinv
  obtain ⟨u150, hinv⟩ := hinv
  obtain ⟨u151, hinv⟩ := hinv
  obtain ⟨u152, hinv⟩ := hinv
  obtain ⟨u153, hinv⟩ := hinv
  obtain ⟨u154, hinv⟩ := hinv
  obtain ⟨u155, hinv⟩ := hinv
  obtain ⟨u156, hinv⟩ := hinv
  obtain ⟨u157, hinv⟩ := hinv
  obtain ⟨u158, hinv⟩ := hinv
  obtain ⟨u159, hinv⟩ := hinv
  obtain ⟨u160, hinv⟩ := hinv
  obtain ⟨u161, hinv⟩ := hinv
  obtain ⟨u162, hinv⟩ := hinv
  obtain ⟨u163, hinv⟩ := hinv
  obtain ⟨u164, hinv⟩ := hinv
  obtain ⟨u165, hinv⟩ := hinv
  obtain ⟨u166, hinv⟩ := hinv
  obtain ⟨u167, hinv⟩ := hinv
  obtain ⟨u168, hinv⟩ := hinv
  obtain ⟨u169, hinv⟩ := hinv
  obtain ⟨u170, hinv⟩ := hinv
  obtain ⟨u171, hinv⟩ := hinv
  obtain ⟨u172, hinv⟩ := hinv
  obtain ⟨u173, hinv⟩ := hinv
  obtain ⟨u174, hinv⟩ := hinv
  obtain ⟨u175, hinv⟩ := hinv
  obtain ⟨u176, hinv⟩ := hinv
  obtain ⟨u177, hinv⟩ := hinv
  obtain ⟨u178, hinv⟩ := hinv
  obtain ⟨u179, hinv⟩ := hinv
  obtain ⟨u180, hinv⟩ := hinv
  obtain ⟨u181, hinv⟩ := hinv
  obtain ⟨u182, hinv⟩ := hinv
  obtain ⟨u183, hinv⟩ := hinv
  obtain ⟨u184, hinv⟩ := hinv
  obtain ⟨u185, hinv⟩ := hinv
  obtain ⟨u186, hinv⟩ := hinv
  obtain ⟨u187, hinv⟩ := hinv
  obtain ⟨u188, hinv⟩ := hinv
  obtain ⟨u189, hinv⟩ := hinv
  obtain ⟨u190, hinv⟩ := hinv
  obtain ⟨u191, hinv⟩ := hinv
  obtain ⟨u192, hinv⟩ := hinv
  obtain ⟨u193, hinv⟩ := hinv
  obtain ⟨u194, hinv⟩ := hinv
  obtain ⟨u195, hinv⟩ := hinv
  obtain ⟨u196, hinv⟩ := hinv
  obtain ⟨u197, hinv⟩ := hinv
  obtain ⟨u198, hinv⟩ := hinv
  obtain ⟨u199, hinv⟩ := hinv
  obtain ⟨u200, hinv⟩ := hinv
  obtain ⟨u201, hinv⟩ := hinv
  obtain ⟨u202, hinv⟩ := hinv
  obtain ⟨u203, hinv⟩ := hinv
  obtain ⟨u204, hinv⟩ := hinv
  obtain ⟨u205, hinv⟩ := hinv
  obtain ⟨u206, hinv⟩ := hinv
  obtain ⟨u207, hinv⟩ := hinv
  obtain ⟨u208, hinv⟩ := hinv
  obtain ⟨u209, hinv⟩ := hinv
  obtain ⟨u210, hinv⟩ := hinv
  obtain ⟨u211, hinv⟩ := hinv
  obtain ⟨u212, hinv⟩ := hinv
  obtain ⟨u213, hinv⟩ := hinv
  obtain ⟨u214, hinv⟩ := hinv
  obtain ⟨u215, hinv⟩ := hinv
  obtain ⟨u216, hinv⟩ := hinv
  obtain ⟨u217, hinv⟩ := hinv
  obtain ⟨u218, hinv⟩ := hinv
  obtain ⟨u219, hinv⟩ := hinv
  obtain ⟨u220, hinv⟩ := hinv
  obtain ⟨u221, hinv⟩ := hinv
  obtain ⟨u222, hinv⟩ := hinv
  obtain ⟨u223, hinv⟩ := hinv
  obtain ⟨u224, hinv⟩ := hinv
  obtain ⟨u225, hinv⟩ := hinv
  obtain ⟨u226, hinv⟩ := hinv
  obtain ⟨u227, hinv⟩ := hinv
  obtain ⟨u228, hinv⟩ := hinv
  obtain ⟨u229, hinv⟩ := hinv
  obtain ⟨u230, hinv⟩ := hinv
  obtain ⟨u231, hinv⟩ := hinv
  obtain ⟨u232, hinv⟩ := hinv
  obtain ⟨u233, hinv⟩ := hinv
  obtain ⟨u234, hinv⟩ := hinv
  obtain ⟨u235, hinv⟩ := hinv
  obtain ⟨u236, hinv⟩ := hinv
  obtain ⟨u237, hinv⟩ := hinv
  obtain ⟨u238, hinv⟩ := hinv
  obtain ⟨u239, hinv⟩ := hinv
  obtain ⟨u240, hinv⟩ := hinv
  obtain ⟨u241, hinv⟩ := hinv
  obtain ⟨u242, hinv⟩ := hinv
  obtain ⟨u243, hinv⟩ := hinv
  obtain ⟨u244, hinv⟩ := hinv
  obtain ⟨u245, hinv⟩ := hinv
  obtain ⟨u246, hinv⟩ := hinv
  obtain ⟨u247, hinv⟩ := hinv
  obtain ⟨u248, hinv⟩ := hinv
  obtain ⟨u249, hinv⟩ := hinv
  obtain ⟨u250, hinv⟩ := hinv
  obtain ⟨u251, hinv⟩ := hinv
  obtain ⟨u252, hinv⟩ := hinv
  obtain ⟨u253, hinv⟩ := hinv
  obtain ⟨u254, hinv⟩ := hinv
  obtain ⟨u255, hinv⟩ := hinv
  obtain ⟨u256, hinv⟩ := hinv
  obtain ⟨u257, hinv⟩ := hinv
  obtain ⟨u258, hinv⟩ := hinv
  obtain ⟨u259, hinv⟩ := hinv
  obtain ⟨u260, hinv⟩ := hinv
  obtain ⟨u261, hinv⟩ := hinv
  obtain ⟨u262, hinv⟩ := hinv
  obtain ⟨u263, hinv⟩ := hinv
  obtain ⟨u264, hinv⟩ := hinv
  obtain ⟨u265, hinv⟩ := hinv
  obtain ⟨u266, hinv⟩ := hinv
  obtain ⟨u267, hinv⟩ := hinv
  obtain ⟨u268, hinv⟩ := hinv
  obtain ⟨u269, hinv⟩ := hinv
  obtain ⟨u270, hinv⟩ := hinv
  obtain ⟨u271, hinv⟩ := hinv
  obtain ⟨u272, hinv⟩ := hinv
  obtain ⟨u273, hinv⟩ := hinv
  obtain ⟨u274, hinv⟩ := hinv
  obtain ⟨u275, hinv⟩ := hinv
  obtain ⟨u276, hinv⟩ := hinv
  obtain ⟨u277, hinv⟩ := hinv
  obtain ⟨u278, hinv⟩ := hinv
  obtain ⟨u279, hinv⟩ := hinv
  obtain ⟨u280, hinv⟩ := hinv
  obtain ⟨u281, hinv⟩ := hinv
  obtain ⟨u282, hinv⟩ := hinv
  obtain ⟨u283, hinv⟩ := hinv
  obtain ⟨u284, hinv⟩ := hinv
  obtain ⟨u285, hinv⟩ := hinv
  obtain ⟨u286, hinv⟩ := hinv
  obtain ⟨u287, hinv⟩ := hinv
  obtain ⟨u288, hinv⟩ := hinv
  obtain ⟨u289, hinv⟩ := hinv
  obtain ⟨u290, hinv⟩ := hinv
  obtain ⟨u291, hinv⟩ := hinv
  obtain ⟨u292, hinv⟩ := hinv
  obtain ⟨u293, hinv⟩ := hinv
  obtain ⟨u294, hinv⟩ := hinv
  obtain ⟨u295, hinv⟩ := hinv
  obtain ⟨u296, hinv⟩ := hinv
  obtain ⟨u297, hinv⟩ := hinv
  obtain ⟨u298, hinv⟩ := hinv
  obtain ⟨u299, hinv⟩ := hinv
  obtain ⟨u300, hinv⟩ := hinv
  obtain ⟨u301, hinv⟩ := hinv
  obtain ⟨u302, hinv⟩ := hinv
  obtain ⟨u303, hinv⟩ := hinv
  obtain ⟨u304, hinv⟩ := hinv
  obtain ⟨u305, hinv⟩ := hinv
  obtain ⟨u306, hinv⟩ := hinv
  obtain ⟨u307, hinv⟩ := hinv
  obtain ⟨u308, hinv⟩ := hinv
  obtain ⟨u309, hinv⟩ := hinv
  obtain ⟨u310, hinv⟩ := hinv
  obtain ⟨u311, hinv⟩ := hinv
  obtain ⟨u312, hinv⟩ := hinv
  obtain ⟨u313, hinv⟩ := hinv
  obtain ⟨u314, hinv⟩ := hinv
  obtain ⟨u315, hinv⟩ := hinv
  obtain ⟨u316, hinv⟩ := hinv
  obtain ⟨u317, hinv⟩ := hinv
  obtain ⟨u318, hinv⟩ := hinv
  obtain ⟨u319, hinv⟩ := hinv
  obtain ⟨u320, hinv⟩ := hinv
  obtain ⟨u321, hinv⟩ := hinv
  obtain ⟨u322, hinv⟩ := hinv
  obtain ⟨u323, hinv⟩ := hinv
  obtain ⟨u324, hinv⟩ := hinv
  obtain ⟨u325, hinv⟩ := hinv
  obtain ⟨u326, hinv⟩ := hinv
  obtain ⟨u327, hinv⟩ := hinv
  obtain ⟨u328, hinv⟩ := hinv
  obtain ⟨u329, hinv⟩ := hinv
  obtain ⟨u330, hinv⟩ := hinv
  obtain ⟨u331, hinv⟩ := hinv
  obtain ⟨u332, hinv⟩ := hinv
  obtain ⟨u333, hinv⟩ := hinv
  obtain ⟨u334, hinv⟩ := hinv
  obtain ⟨u335, hinv⟩ := hinv
  obtain ⟨u336, hinv⟩ := hinv
  obtain ⟨u337, hinv⟩ := hinv
  obtain ⟨u338, hinv⟩ := hinv
  obtain ⟨u339, hinv⟩ := hinv
  obtain ⟨hrel, rfl⟩ := hinv
  exact hr u10 u20 u21 u22 u24 u25 u26 u27 u28 u29 u30 u31 u32 u33 u99 u100 u101 u102 u103 u104 u105 u106 u107 u108 u109 u110 u111 u112 u113 u114 u115 u116 u117 u118 u119 u120 u121 u122 u123 u124 u125 u126 u127 u128 u129 u130 u131 u132 u133 u134 u135 u136 u137 u138 u139 u140 u141 u142 u143 u144 u145 u146 u147 u148 u149 u150 u151 u152 u153 u154 u155 u156 u157 u158 u159 u160 u161 u162 u163 u164 u165 u166 u167 u168 u169 u170 u171 u172 u173 u174 u175 u176 u177 u178 u179 u180 u181 u182 u183 u184 u185 u186 u187 u188 u189 u190 u191 u192 u193 u194 u195 u196 u197 u198 u199 u200 u201 u202 u203 u204 u205 u206 u207 u208 u209 u210 u211 u212 u213 u214 u215 u216 u217 u218 u219 u220 u221 u222 u223 u224 u225 u226 u227 u228 u229 u230 u231 u232 u233 u234 u235 u236 u237 u238 u239 u240 u241 u242 u243 u244 u245 u246 u247 u248 u249 u250 u251 u252 u253 u254 u255 u256 u257 u258 u259 u260 u261 u262 u263 u264 u265 u266 u267 u268 u269 u270 u271 u272 u273 u274 u275 u276 u277 u278 u279 u280 u281 u282 u283 u284 u285 u286 u287 u288 u289 u290 u291 u292 u293 u294 u295 u296 u297 u298 u299 u300 u301 u302 u303 u304 u305 u306 u307 u308 u309 u310 u311 u312 u313 u314 u315 u316 u317 u318 u319 u320 u321 u322 u323 u324 u325 u326 u327 u328 u329 u330 u331 u332 u333 u334 u335 u336 u337 u338 u339 w' hrel
end Go.Proofs.YtgnpffkfbacejaaGreatDoor.LogKeeps
