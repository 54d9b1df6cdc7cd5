/-
  A part of the walk of stairlaw3.LogKeeps: the inner round, put together.
-/
import Derived.Test.YtgnpffkfbacejaaGreatDoorQLogKeepsA
import Derived.Test.YtgnpffkfbacejaaGreatDoorQLogKeepsB
import Derived.Test.YtgnpffkfbacejaaGreatDoorQLogKeepsC
namespace Go.Proofs.YtgnpffkfbacejaaGreatDoor.LogKeeps
open Go.ChangeShapes Go.WideShapes Go.ChangeAt Go.RowKit
open Go.Proofs.YtgnpffkfbacejaaGreatDoor.M Go.Proofs.YtgnpffkfbacejaaGreatDoor.Log
set_option linter.unusedVariables false

section
variable {Lg : World → Nat → Value → (Nat → Prop) → LS → Prop} {LL : Core Lg}
/-- The log's Raise, with the new counts ahead of all again. -/
theorem raise_back {w0 W : World} {g : Nat} {v : Value} {cs : Cs} {p : Value} {j : LS} {dv mv : Value} {os : List Ob} {ms : List Nat} {nm : ByteArray} {x : Int} {ob : Bool} {ev : Value} {F : FuncId} {av : Array Value}
    (h : Calls Tryz.prog F av W fun e w' => ∃ S' n, 2 ≤ n ∧ n ≤ 1000 ∧ e = .returned (.tuple #[.bool ob, ev]) ∧ M.Sep w0 w0.heap.size (logI LL w0.heap.size p S' (lraT j nm x n) :: cnI w0.heap.size g v cs :: rowI 1 ptrV w0.heap.size 35 dv (os.map (fun o : Ob => o.1)) :: rowI 1 natV w0.heap.size 3 mv ms :: os.map (obI w0.heap.size)) w') :
    Calls Tryz.prog F av W fun e w' => ∃ S' n, 2 ≤ n ∧ n ≤ 1000 ∧ e = .returned (.tuple #[.bool ob, ev]) ∧ KN LL w0 g v cs p S' (lraT j nm x n) dv mv os ms w' := by
  refine h.mono ?_
  rintro e w' ⟨S', n, h1, h2, h3, h4⟩
  exact ⟨S', n, h1, h2, h3, KN.back h4⟩
end
set_option maxRecDepth 20000 in
set_option maxHeartbeats 200000000 in
theorem body : BodySt := by
  intro e0 he0 Lg HLL HRL HSL HBL HSF a0 a1 a2 a3 a4 n0 n1 n2 n3 n4 c0 c1 c2 c3 c4 p w wc ns ls ys HG HN0 HM0 HR0 HZ0 HN1 HR1 HN2 HR2 hm0' hm1' hm2' AL at' gd cd gm cm os ms S j h0 h1 HK t5 t6 t7 t8 t9 t10 t11 t12 t13 t14 t15 t16 t17 t18 t23 t24 t25 t26 t27 t28 t29 t30 t31 t32 t33 t34 t35 t36 t37 t38 t39 t40 t41 t42 t43 t44 t45 t46 t47 t48 t49 t50 t51 t52 t53 t54 t55 t56 t57 t58 t59 t60 t61 t62 t63 t64 t65 t66 t67 t68 t69 t70 t71 t72 t73 t74 t75 t76 t77 t78 t79 t80 t81 t82 t83 t84 t85 t86 t87 t88 t89 t90 t91 t92 t93 t94 t95 t96 t97 t98 t99 t100 t101 t102 t103 t104 t105 t106 t107 t108 t109 t110 t111 t112 t113 t114 t115 t116 t117 t118 t119 t120 t121 t122 t123 t124 t125 t126 t127 t128 t129 t130 t131 t132 t133 t134 t135 t136 t137 t138 t139 t140 t141 t142 t143 t144 t145 t146 t147 t148 t149 t150 t151 t152 t153 t154 t155 t156 t157 t158 t159 t160 t161 t162 t163 t164 t165 t166 t167 t168 t169 t170 t171 t172 t173 t174 t175 t176 t177 t178 t179 t180 t181 t182 t183 t184 t185 t186 t187 t188 t189 t190 t191 t192 t193 t194 t195 t196 t197 t198 t199 t200 t201 t202 t203 t204 t205 t206 t207 t208 t209 t210 t211 t212 t213 t214 t215 t216 t217 t218 t219 t220 t221 t222 t223 t224 t225 t226 t227 t228 t229 t230 t231 t232 t233 t234 t235 t236 t237 t238 t239 t240 t241 t242 t243 t244 t245 t246 t247 t248 t249 t250 t251 t252 t253 t254 t255 t256 t257 t258 t259 t260 t261 t262 t263 t264 t265 t266 t267 t268 t269 t270 t271 t272 t273 t274 t275 t276 t277 t278 t279 t280 t281 t282 t283 t284 t285 t286 t287 t288 t289 t290 t291 t292 t293 t294 t295 t296 t297 t298 t299 t300 t301 t302 t303 t304 t305 t306 t307 t308 t309 t310 t311 t312 t313 t314 t315 t316 t317 t318 t319 t320 t321 t322 t323 t324 t325 t326 t327 t328 t329 t330 t331 t332 t333 t334 t335 t336 t337 t338 t339
  change some _ = some e0 at he0
  obtain rfl := Option.some.inj he0
  clear he0
  refine wp_blk ?_
  refine s21k _ (by kernel_rfl) Lg HLL HSL HBL HSF a0 a1 a2 a3 a4 n0 n1 n2 n3 n4 c0 c1 c2 c3 c4 p w wc ys HN2 HR2 hm2' at' gd cd gm cm os ms S j HK _ _ _ _ _ _ _ _ _ _ _ _ _ _ _ _ _ _ _ _ _ _ _ _ _ _ _ _ _ _ _ _ _ _ _ _ _ _ _ _ _ _ _ _ _ _ _ _ _ _ _ _ _ _ _ _ _ _ _ _ _ _ _ _ _ _ _ _ _ _ _ _ _ _ _ _ _ _ _ _ _ _ _ _ _ _ _ _ _ _ _ _ _ _ _ _ _ _ _ _ _ _ _ _ _ _ _ _ _ _ _ _ _ _ _ _ _ _ _ _ _ _ _ _ _ _ _ _ _ _ _ _ _ _ _ _ _ _ _ _ _ _ _ _ _ _ _ _ _ _ _ _ _ _ _ _ _ _ _ _ _ _ _ _ _ _ _ _ _ _ _ _ _ _ _ _ _ _ _ _ _ _ _ _ _ _ _ _ _ _ _ _ _ _ _ _ _ _ _ _ _ _ _ _ _ _ _ _ _ _ _ _ _ _ _ _ _ _ _ _ _ _ _ _ _ _ _ _ _ _ _ _ _ _ _ _ _ _ _ _ _ _ _ _ _ _ _ _ _ _ _ _ _ _ _ _ _ _ _ _ _ _ _ _ _ _ _ _ _ _ _ _ _ _ _ _ _ _ _ _ _ _ _ _ _ _ _ _ _ _ _ _ _ _ _ _ _ _ _ _ _ _ _ _ _ _ _ _ _ _ _ _ _ _ _ _ _ _ _ _ _ _ _ _ _ _ _ _ _ _ _ _ _ ?_
  intro x1u10 x1u119 x1u120 x1u121 x1u122 x1u123 x1u124 x1u125 x1u126 x1u127 x1u128 x1u129 x1u130 x1u131 x1u132 x1u133 x1u134 x1u135 x1u136 x1u137 x1u138 x1u139 x1u140 x1u141 x1u142 x1u143 x1u144 x1u145 x1u146 x1u147 x1u148 x1u149 x1u150 x1u151 x1u152 x1u153 x1u154 x1u155 x1u156 x1u157 x1u158 x1u159 x1u160 x1u161 x1u162 x1u163 x1u164 x1u165 x1u166 x1u167 x1u168 x1u169 x1u170 x1u171 x1u172 x1u173 x1u174 x1u175 x1u176 x1u177 x1u178 x1u179 x1u180 x1u181 x1u182 x1u183 x1u184 x1u185 x1u186 x1u187 x1u188 x1u189 x1u190 x1u191 x1u192 x1u193 x1u194 x1u195 x1u196 x1u197 x1u198 x1u199 x1u200 x1u201 x1u202 x1u203 x1u204 x1u205 x1u206 x1u207 x1u208 x1u209 x1u210 x1u211 x1u212 x1u213 x1u214 x1u215 x1u216 x1u217 x1u218 x1u219 x1u220 x1u221 x1u222 x1u223 x1u224 x1u225 x1u226 x1u227 x1u228 x1u229 x1u230 x1u231 x1u232 x1u233 x1u234 x1u235 x1u236 x1u237 x1u238 x1u239 x1u240 x1u241 x1u242 x1u243 x1u244 x1u245 x1u246 x1u247 x1u248 x1u249 x1u250 x1u251 x1u252 x1u253 x1u254 x1u255 x1u256 x1u257 x1u258 x1u259 x1u260 w3
  rintro ⟨S3, j3, HK3⟩
  clear t119 t120 t121 t122 t123 t124 t125 t126 t127 t128 t129 t130 t131 t132 t133 t134 t135 t136 t137 t138 t139 t140 t141 t142 t143 t144 t145 t146 t147 t148 t149 t150 t151 t152 t153 t154 t155 t156 t157 t158 t159 t160 t161 t162 t163 t164 t165 t166 t167 t168 t169 t170 t171 t172 t173 t174 t175 t176 t177 t178 t179 t180 t181 t182 t183 t184 t185 t186 t187 t188 t189 t190 t191 t192 t193 t194 t195 t196 t197 t198 t199 t200 t201 t202 t203 t204 t205 t206 t207 t208 t209 t210 t211 t212 t213 t214 t215 t216 t217 t218 t219 t220 t221 t222 t223 t224 t225 t226 t227 t228 t229 t230 t231 t232 t233 t234 t235 t236 t237 t238 t239 t240 t241 t242 t243 t244 t245 t246 t247 t248 t249 t250 t251 t252 t253 t254 t255 t256 t257 t258 t259 t260
  clear HK S j
  have h0z : (at' : Int) < n0 := by omega
  have h1z : (at' : Int) < n1 := by omega
  obtain ⟨nm, hnm⟩ : ∃ y, ns[at']? = some y := ⟨ns[at']'(by have := HN0.out; omega), List.getElem?_eq_getElem (by have := HN0.out; omega)⟩
  obtain ⟨x, hxl⟩ : ∃ y, ls[at']? = some y := ⟨ls[at']'(by have := HN1.out; omega), List.getElem?_eq_getElem (by have := HN1.out; omega)⟩
  have hsz := HZ0.out _ (List.mem_of_getElem? hnm)
  obtain ⟨b0, o0, rfl, hy1⟩ := txt_at (HR0.out.below HK3.out.1.lo) hnm
  obtain ⟨b1, o1, rfl, hy2⟩ := row_at (HR1.out.below HK3.out.1.lo) hxl
  clear hy1 hy2
  have HC0 := hide (fun (W : World) (h : Below w.heap.size w W) => And.intro (txt_cell (HR0.out.below h) hnm) (row_cell (HR1.out.below h) hxl))
  clear hnm hxl
  obtain ⟨hol, hml, go, vo, cso, hoo, hof, hok⟩ := rk_last HK3.out
  obtain ⟨hdc, hy3, hy4⟩ := kq_cell HK3.out.1 hoo
  clear hy3 hy4
  have TW := hide (CntRef.twin_any go vo cso _ w.heap.size (HK3.out.1.ob hoo).1 (HK3.out.1.ob hoo).2 HK3.out.1.hb)
  have HOF := hide hof
  have HOK := hide hok
  have HOL := hide hol
  have HML := hide hml
  have HOKL := hide (HLL.out.ok HK3.out.1.lg)
  have hj30 : j3.rs.length ≤ 30 := HOKL.out.many
  have hbb : (j3.bytes : Int) ≤ 31000 := by have := HOKL.out.bytes.1; omega
  rw [hol, hml]
  clear hoo hof hok hol hml
  refine s23k _ (by kernel_rfl) Lg (some ⟨b0, o0, none⟩) (some ⟨b1, o1, none⟩) a2 a3 a4 n0 n1 n2 n3 n4 c0 c1 c2 c3 c4 p w (w3) gd cd (j3.rs.length) go cso (hj30) hdc TW _ _ _ _ _ _ _ _ _ _ _ _ _ _ _ _ _ _ _ _ _ _ _ _ _ _ _ _ _ _ _ _ _ _ _ _ _ _ _ _ _ _ _ _ _ _ _ _ _ _ _ _ _ _ _ _ _ _ _ _ _ _ _ _ _ _ _ _ _ _ _ _ _ _ _ _ _ _ _ _ _ _ _ _ _ _ _ _ _ _ _ _ _ _ _ _ _ _ _ _ _ _ _ _ _ _ _ _ _ _ _ _ _ _ _ _ _ _ _ _ _ _ _ _ _ _ _ _ _ _ _ _ _ _ _ _ _ _ _ _ _ _ _ _ _ _ _ _ _ _ _ _ _ _ _ _ _ _ _ _ _ _ _ _ _ _ _ _ _ _ _ _ _ _ _ _ _ _ _ _ _ _ _ _ _ _ _ _ _ _ _ _ _ _ _ _ _ _ _ _ _ _ _ _ _ _ _ _ _ _ _ _ _ _ _ _ _ _ _ _ _ _ _ _ _ _ _ _ _ _ _ _ _ _ _ _ _ _ _ _ _ _ _ _ _ _ _ _ _ _ _ _ _ _ _ _ _ _ _ _ _ _ _ _ _ _ _ _ _ _ _ _ _ _ _ _ _ _ _ _ _ _ _ _ _ _ _ _ _ _ _ _ _ _ _ _ _ _ _ _ _ _ _ _ _ _ _ _ _ _ _ _ _ _ _ _ _ _ _ _ _ _ _ _ _ _ _ _ _ _ _ _ _ ?_
  intro x2u25 x2u119 x2u120 x2u121 x2u122 x2u123 x2u124 x2u125 x2u126 x2u127 x2u128 x2u129 x2u130 x2u131 x2u132 x2u133 x2u134 x2u135 x2u136 x2u137 x2u138 x2u139 x2u140 x2u141 x2u142 x2u143 x2u144 x2u145 x2u146 x2u147 x2u148 x2u149 x2u150 x2u151 x2u152 x2u153 x2u154 x2u155 x2u156 x2u157 x2u158 x2u159 x2u160 x2u161 x2u162 x2u163 x2u164 x2u165 x2u166 x2u167 x2u168 x2u169 x2u170 x2u171 x2u172 x2u173 x2u174 x2u175 x2u176 x2u177 x2u178 x2u179 x2u180 x2u181 x2u182 x2u183 x2u184 x2u185 x2u186 x2u187 x2u188 x2u189 x2u190 x2u191 x2u192 x2u193 x2u194 x2u195 x2u196 x2u197 x2u198 x2u199 x2u200 x2u201 x2u202 x2u203 x2u204 x2u205 x2u206 x2u207 x2u208 x2u209 x2u210 x2u211 x2u212 x2u213 x2u214 x2u215 x2u216 x2u217 x2u218 x2u219 x2u220 x2u221 x2u222 x2u223 x2u224 x2u225 x2u226 x2u227 x2u228 x2u229 x2u230 x2u231 x2u232 x2u233 x2u234 x2u235 x2u236 x2u237 x2u238 x2u239 x2u240 x2u241 x2u242 x2u243 x2u244 x2u245 x2u246 x2u247 x2u248 x2u249 x2u250 x2u251 x2u252 x2u253 x2u254 x2u255 x2u256 x2u257 x2u258 x2u259 x2u260 w20
  rintro ⟨g2, rfl, htw⟩
  clear x1u119 x1u120 x1u121 x1u122 x1u123 x1u124 x1u125 x1u126 x1u127 x1u128 x1u129 x1u130 x1u131 x1u132 x1u133 x1u134 x1u135 x1u136 x1u137 x1u138 x1u139 x1u140 x1u141 x1u142 x1u143 x1u144 x1u145 x1u146 x1u147 x1u148 x1u149 x1u150 x1u151 x1u152 x1u153 x1u154 x1u155 x1u156 x1u157 x1u158 x1u159 x1u160 x1u161 x1u162 x1u163 x1u164 x1u165 x1u166 x1u167 x1u168 x1u169 x1u170 x1u171 x1u172 x1u173 x1u174 x1u175 x1u176 x1u177 x1u178 x1u179 x1u180 x1u181 x1u182 x1u183 x1u184 x1u185 x1u186 x1u187 x1u188 x1u189 x1u190 x1u191 x1u192 x1u193 x1u194 x1u195 x1u196 x1u197 x1u198 x1u199 x1u200 x1u201 x1u202 x1u203 x1u204 x1u205 x1u206 x1u207 x1u208 x1u209 x1u210 x1u211 x1u212 x1u213 x1u214 x1u215 x1u216 x1u217 x1u218 x1u219 x1u220 x1u221 x1u222 x1u223 x1u224 x1u225 x1u226 x1u227 x1u228 x1u229 x1u230 x1u231 x1u232 x1u233 x1u234 x1u235 x1u236 x1u237 x1u238 x1u239 x1u240 x1u241 x1u242 x1u243 x1u244 x1u245 x1u246 x1u247 x1u248 x1u249 x1u250 x1u251 x1u252 x1u253 x1u254 x1u255 x1u256 x1u257 x1u258 x1u259 x1u260
  obtain ⟨v2, hkn⟩ := HK3.out.1.twin htw
  have HKR3 := hide HK3.out.2
  rw [HOL.out, HML.out] at hkn
  clear htw TW hdc HK3
  refine s24k _ (by kernel_rfl) Lg HLL b0 o0 b1 o1 a2 a3 a4 n0 n1 n2 n3 n4 c0 c1 c2 c3 c4 p w (w20) at' gd cd gm cm os ms nm x hsz HC0 g2 v2 cso S3 j3 HOF HOK (hide hkn) h0z h1z hm0' hm1' _ _ _ _ _ _ _ _ _ _ _ _ _ _ _ _ _ _ _ _ _ _ _ _ _ _ _ _ _ _ _ _ _ _ _ _ _ _ _ _ _ _ _ _ _ _ _ _ _ _ _ _ _ _ _ _ _ _ _ _ _ _ _ _ _ _ _ _ _ _ _ _ _ _ _ _ _ _ _ _ _ _ _ _ _ _ _ _ _ _ _ _ _ _ _ _ _ _ _ _ _ _ _ _ _ _ _ _ _ _ _ _ _ _ _ _ _ _ _ _ _ _ _ _ _ _ _ _ _ _ _ _ _ _ _ _ _ _ _ _ _ _ _ _ _ _ _ _ _ _ _ _ _ _ _ _ _ _ _ _ _ _ _ _ _ _ _ _ _ _ _ _ _ _ _ _ _ _ _ _ _ _ _ _ _ _ _ _ _ _ _ _ _ _ _ _ _ _ _ _ _ _ _ _ _ _ _ _ _ _ _ _ _ _ _ _ _ _ _ _ _ _ _ _ _ _ _ _ _ _ _ _ _ _ _ _ _ _ _ _ _ _ _ _ _ _ _ _ _ _ _ _ _ _ _ _ _ _ _ _ _ _ _ _ _ _ _ _ _ _ _ _ _ _ _ _ _ _ _ _ _ _ _ _ _ _ _ _ _ _ _ _ _ _ _ _ _ _ _ _ _ _ _ _ _ _ _ _ _ _ _ _ _ _ _ _ _ _ _ _ _ _ _ _ _ _ _ _ _ _ _ _ ?_
  intro x3u26 x3u27 x3u119 x3u120 x3u121 x3u122 x3u123 x3u124 x3u125 x3u126 x3u127 x3u128 x3u129 x3u130 x3u131 x3u132 x3u133 x3u134 x3u135 x3u136 x3u137 x3u138 x3u139 x3u140 x3u141 x3u142 x3u143 x3u144 x3u145 x3u146 x3u147 x3u148 x3u149 x3u150 x3u151 x3u152 x3u153 x3u154 x3u155 x3u156 x3u157 x3u158 x3u159 x3u160 x3u161 x3u162 x3u163 x3u164 x3u165 x3u166 x3u167 x3u168 x3u169 x3u170 x3u171 x3u172 x3u173 x3u174 x3u175 x3u176 x3u177 x3u178 x3u179 x3u180 x3u181 x3u182 x3u183 x3u184 x3u185 x3u186 x3u187 x3u188 x3u189 x3u190 x3u191 x3u192 x3u193 x3u194 x3u195 x3u196 x3u197 x3u198 x3u199 x3u200 x3u201 x3u202 x3u203 x3u204 x3u205 x3u206 x3u207 x3u208 x3u209 x3u210 x3u211 x3u212 x3u213 x3u214 x3u215 x3u216 x3u217 x3u218 x3u219 x3u220 x3u221 x3u222 x3u223 x3u224 x3u225 x3u226 x3u227 x3u228 x3u229 x3u230 x3u231 x3u232 x3u233 x3u234 x3u235 x3u236 x3u237 x3u238 x3u239 x3u240 x3u241 x3u242 x3u243 x3u244 x3u245 x3u246 x3u247 x3u248 x3u249 x3u250 x3u251 x3u252 x3u253 x3u254 x3u255 x3u256 x3u257 x3u258 x3u259 x3u260 w21
  rintro ⟨rfl, rfl, HNA⟩
  clear x2u119 x2u120 x2u121 x2u122 x2u123 x2u124 x2u125 x2u126 x2u127 x2u128 x2u129 x2u130 x2u131 x2u132 x2u133 x2u134 x2u135 x2u136 x2u137 x2u138 x2u139 x2u140 x2u141 x2u142 x2u143 x2u144 x2u145 x2u146 x2u147 x2u148 x2u149 x2u150 x2u151 x2u152 x2u153 x2u154 x2u155 x2u156 x2u157 x2u158 x2u159 x2u160 x2u161 x2u162 x2u163 x2u164 x2u165 x2u166 x2u167 x2u168 x2u169 x2u170 x2u171 x2u172 x2u173 x2u174 x2u175 x2u176 x2u177 x2u178 x2u179 x2u180 x2u181 x2u182 x2u183 x2u184 x2u185 x2u186 x2u187 x2u188 x2u189 x2u190 x2u191 x2u192 x2u193 x2u194 x2u195 x2u196 x2u197 x2u198 x2u199 x2u200 x2u201 x2u202 x2u203 x2u204 x2u205 x2u206 x2u207 x2u208 x2u209 x2u210 x2u211 x2u212 x2u213 x2u214 x2u215 x2u216 x2u217 x2u218 x2u219 x2u220 x2u221 x2u222 x2u223 x2u224 x2u225 x2u226 x2u227 x2u228 x2u229 x2u230 x2u231 x2u232 x2u233 x2u234 x2u235 x2u236 x2u237 x2u238 x2u239 x2u240 x2u241 x2u242 x2u243 x2u244 x2u245 x2u246 x2u247 x2u248 x2u249 x2u250 x2u251 x2u252 x2u253 x2u254 x2u255 x2u256 x2u257 x2u258 x2u259 x2u260
  clear hkn HOF HOK
  refine s25k _ (by kernel_rfl) Lg (some ⟨b0, o0, none⟩) (some ⟨b1, o1, none⟩) a2 a3 a4 n0 n1 n2 n3 n4 c0 c1 c2 c3 c4 p (w21) gd cd (j3.rs.length) (hj30) (raiB j3.f j3.k nm x) (refB j3 nm x) (raiE j3.f j3.k nm x) (refE j3 nm x) (hide (refB_is j3 nm x)) (hide (refB_no j3 nm x)) _ _ _ _ _ _ _ _ _ _ _ _ _ _ _ _ _ _ _ _ _ _ _ _ _ _ _ _ _ _ _ _ _ _ _ _ _ _ _ _ _ _ _ _ _ _ _ _ _ _ _ _ _ _ _ _ _ _ _ _ _ _ _ _ _ _ _ _ _ _ _ _ _ _ _ _ _ _ _ _ _ _ _ _ _ _ _ _ _ _ _ _ _ _ _ _ _ _ _ _ _ _ _ _ _ _ _ _ _ _ _ _ _ _ _ _ _ _ _ _ _ _ _ _ _ _ _ _ _ _ _ _ _ _ _ _ _ _ _ _ _ _ _ _ _ _ _ _ _ _ _ _ _ _ _ _ _ _ _ _ _ _ _ _ _ _ _ _ _ _ _ _ _ _ _ _ _ _ _ _ _ _ _ _ _ _ _ _ _ _ _ _ _ _ _ _ _ _ _ _ _ _ _ _ _ _ _ _ _ _ _ _ _ _ _ _ _ _ _ _ _ _ _ _ _ _ _ _ _ _ _ _ _ _ _ _ _ _ _ _ _ _ _ _ _ _ _ _ _ _ _ _ _ _ _ _ _ _ _ _ _ _ _ _ _ _ _ _ _ _ _ _ _ _ _ _ _ _ _ _ _ _ _ _ _ _ _ _ _ _ _ _ _ _ _ _ _ _ _ _ _ _ _ _ _ _ _ _ _ _ _ _ _ _ _ _ _ _ _ _ _ _ _ _ _ _ _ _ _ _ _ ?_
  intro x4u26 x4u27 x4u119 x4u120 x4u121 x4u122 x4u123 x4u124 x4u125 x4u126 x4u127 x4u128 x4u129 x4u130 x4u131 x4u132 x4u133 x4u134 x4u135 x4u136 x4u137 x4u138 x4u139 x4u140 x4u141 x4u142 x4u143 x4u144 x4u145 x4u146 x4u147 x4u148 x4u149 x4u150 x4u151 x4u152 x4u153 x4u154 x4u155 x4u156 x4u157 x4u158 x4u159 x4u160 x4u161 x4u162 x4u163 x4u164 x4u165 x4u166 x4u167 x4u168 x4u169 x4u170 x4u171 x4u172 x4u173 x4u174 x4u175 x4u176 x4u177 x4u178 x4u179 x4u180 x4u181 x4u182 x4u183 x4u184 x4u185 x4u186 x4u187 x4u188 x4u189 x4u190 x4u191 x4u192 x4u193 x4u194 x4u195 x4u196 x4u197 x4u198 x4u199 x4u200 x4u201 x4u202 x4u203 x4u204 x4u205 x4u206 x4u207 x4u208 x4u209 x4u210 x4u211 x4u212 x4u213 x4u214 x4u215 x4u216 x4u217 x4u218 x4u219 x4u220 x4u221 x4u222 x4u223 x4u224 x4u225 x4u226 x4u227 x4u228 x4u229 x4u230 x4u231 x4u232 x4u233 x4u234 x4u235 x4u236 x4u237 x4u238 x4u239 x4u240 x4u241 x4u242 x4u243 x4u244 x4u245 x4u246 x4u247 x4u248 x4u249 x4u250 x4u251 x4u252 x4u253 x4u254 x4u255 x4u256 x4u257 x4u258 x4u259 x4u260 w22
  rintro ⟨rfl, rfl, rfl⟩
  clear x3u119 x3u120 x3u121 x3u122 x3u123 x3u124 x3u125 x3u126 x3u127 x3u128 x3u129 x3u130 x3u131 x3u132 x3u133 x3u134 x3u135 x3u136 x3u137 x3u138 x3u139 x3u140 x3u141 x3u142 x3u143 x3u144 x3u145 x3u146 x3u147 x3u148 x3u149 x3u150 x3u151 x3u152 x3u153 x3u154 x3u155 x3u156 x3u157 x3u158 x3u159 x3u160 x3u161 x3u162 x3u163 x3u164 x3u165 x3u166 x3u167 x3u168 x3u169 x3u170 x3u171 x3u172 x3u173 x3u174 x3u175 x3u176 x3u177 x3u178 x3u179 x3u180 x3u181 x3u182 x3u183 x3u184 x3u185 x3u186 x3u187 x3u188 x3u189 x3u190 x3u191 x3u192 x3u193 x3u194 x3u195 x3u196 x3u197 x3u198 x3u199 x3u200 x3u201 x3u202 x3u203 x3u204 x3u205 x3u206 x3u207 x3u208 x3u209 x3u210 x3u211 x3u212 x3u213 x3u214 x3u215 x3u216 x3u217 x3u218 x3u219 x3u220 x3u221 x3u222 x3u223 x3u224 x3u225 x3u226 x3u227 x3u228 x3u229 x3u230 x3u231 x3u232 x3u233 x3u234 x3u235 x3u236 x3u237 x3u238 x3u239 x3u240 x3u241 x3u242 x3u243 x3u244 x3u245 x3u246 x3u247 x3u248 x3u249 x3u250 x3u251 x3u252 x3u253 x3u254 x3u255 x3u256 x3u257 x3u258 x3u259 x3u260
  obtain ⟨v5, cs5, hof5, hok5, hne5, hkn5⟩ := HNA.out
  have BY := hide (sep_byt HBL.out hkn5.front)
  clear HNA hkn5
  refine s28k _ (by kernel_rfl) Lg (some ⟨b0, o0, none⟩) (some ⟨b1, o1, none⟩) a2 a3 a4 n0 n1 n2 n3 n4 c0 c1 c2 c3 c4 p (w22) (j3.bytes) (_) (BY) _ _ _ _ _ _ _ _ _ _ _ _ _ _ _ _ _ _ _ _ _ _ _ _ _ _ _ _ _ _ _ _ _ _ _ _ _ _ _ _ _ _ _ _ _ _ _ _ _ _ _ _ _ _ _ _ _ _ _ _ _ _ _ _ _ _ _ _ _ _ _ _ _ _ _ _ _ _ _ _ _ _ _ _ _ _ _ _ _ _ _ _ _ _ _ _ _ _ _ _ _ _ _ _ _ _ _ _ _ _ _ _ _ _ _ _ _ _ _ _ _ _ _ _ _ _ _ _ _ _ _ _ _ _ _ _ _ _ _ _ _ _ _ _ _ _ _ _ _ _ _ _ _ _ _ _ _ _ _ _ _ _ _ _ _ _ _ _ _ _ _ _ _ _ _ _ _ _ _ _ _ _ _ _ _ _ _ _ _ _ _ _ _ _ _ _ _ _ _ _ _ _ _ _ _ _ _ _ _ _ _ _ _ _ _ _ _ _ _ _ _ _ _ _ _ _ _ _ _ _ _ _ _ _ _ _ _ _ _ _ _ _ _ _ _ _ _ _ _ _ _ _ _ _ _ _ _ _ _ _ _ _ _ _ _ _ _ _ _ _ _ _ _ _ _ _ _ _ _ _ _ _ _ _ _ _ _ _ _ _ _ _ _ _ _ _ _ _ _ _ _ _ _ _ _ _ _ _ _ _ _ _ _ _ _ _ _ _ _ _ _ _ _ _ _ _ _ _ _ _ _ _ _ _ ?_
  intro x5u28 x5u119 x5u120 x5u121 x5u122 x5u123 x5u124 x5u125 x5u126 x5u127 x5u128 x5u129 x5u130 x5u131 x5u132 x5u133 x5u134 x5u135 x5u136 x5u137 x5u138 x5u139 x5u140 x5u141 x5u142 x5u143 x5u144 x5u145 x5u146 x5u147 x5u148 x5u149 x5u150 x5u151 x5u152 x5u153 x5u154 x5u155 x5u156 x5u157 x5u158 x5u159 x5u160 x5u161 x5u162 x5u163 x5u164 x5u165 x5u166 x5u167 x5u168 x5u169 x5u170 x5u171 x5u172 x5u173 x5u174 x5u175 x5u176 x5u177 x5u178 x5u179 x5u180 x5u181 x5u182 x5u183 x5u184 x5u185 x5u186 x5u187 x5u188 x5u189 x5u190 x5u191 x5u192 x5u193 x5u194 x5u195 x5u196 x5u197 x5u198 x5u199 x5u200 x5u201 x5u202 x5u203 x5u204 x5u205 x5u206 x5u207 x5u208 x5u209 x5u210 x5u211 x5u212 x5u213 x5u214 x5u215 x5u216 x5u217 x5u218 x5u219 x5u220 x5u221 x5u222 x5u223 x5u224 x5u225 x5u226 x5u227 x5u228 x5u229 x5u230 x5u231 x5u232 x5u233 x5u234 x5u235 x5u236 x5u237 x5u238 x5u239 x5u240 x5u241 x5u242 x5u243 x5u244 x5u245 x5u246 x5u247 x5u248 x5u249 x5u250 x5u251 x5u252 x5u253 x5u254 x5u255 x5u256 x5u257 x5u258 x5u259 x5u260 w30
  rintro ⟨rfl, hd30⟩
  clear x4u119 x4u120 x4u121 x4u122 x4u123 x4u124 x4u125 x4u126 x4u127 x4u128 x4u129 x4u130 x4u131 x4u132 x4u133 x4u134 x4u135 x4u136 x4u137 x4u138 x4u139 x4u140 x4u141 x4u142 x4u143 x4u144 x4u145 x4u146 x4u147 x4u148 x4u149 x4u150 x4u151 x4u152 x4u153 x4u154 x4u155 x4u156 x4u157 x4u158 x4u159 x4u160 x4u161 x4u162 x4u163 x4u164 x4u165 x4u166 x4u167 x4u168 x4u169 x4u170 x4u171 x4u172 x4u173 x4u174 x4u175 x4u176 x4u177 x4u178 x4u179 x4u180 x4u181 x4u182 x4u183 x4u184 x4u185 x4u186 x4u187 x4u188 x4u189 x4u190 x4u191 x4u192 x4u193 x4u194 x4u195 x4u196 x4u197 x4u198 x4u199 x4u200 x4u201 x4u202 x4u203 x4u204 x4u205 x4u206 x4u207 x4u208 x4u209 x4u210 x4u211 x4u212 x4u213 x4u214 x4u215 x4u216 x4u217 x4u218 x4u219 x4u220 x4u221 x4u222 x4u223 x4u224 x4u225 x4u226 x4u227 x4u228 x4u229 x4u230 x4u231 x4u232 x4u233 x4u234 x4u235 x4u236 x4u237 x4u238 x4u239 x4u240 x4u241 x4u242 x4u243 x4u244 x4u245 x4u246 x4u247 x4u248 x4u249 x4u250 x4u251 x4u252 x4u253 x4u254 x4u255 x4u256 x4u257 x4u258 x4u259 x4u260
  have hkn30 := KN.back hd30
  clear hd30 BY
  have RR := hide (fun (W : World) (h : KN HLL.out w g2 v5 cs5 p S3 j3 (.slice (some ⟨gd, 0, none⟩) (j3.rs.length + 1) cd) (.slice (some ⟨gm, 0, none⟩) (j3.rs.length + 1) cm) os ms W) => raise_back (sep_rai HRL.out h.front nm x hsz (HG.out _ h.lo).2))
  refine s29k _ (by kernel_rfl) Lg HLL b0 o0 b1 o1 a2 a3 a4 n0 n1 n2 n3 n4 c0 c1 c2 c3 c4 p w (w30) at' gd cd gm cm os ms nm x HC0 g2 v5 cs5 S3 j3 (lraB j3 nm x) (lraE j3 nm x) RR (hide hkn30) h0z h1z hm0' hm1' _ _ _ _ _ _ _ _ _ _ _ _ _ _ _ _ _ _ _ _ _ _ _ _ _ _ _ _ _ _ _ _ _ _ _ _ _ _ _ _ _ _ _ _ _ _ _ _ _ _ _ _ _ _ _ _ _ _ _ _ _ _ _ _ _ _ _ _ _ _ _ _ _ _ _ _ _ _ _ _ _ _ _ _ _ _ _ _ _ _ _ _ _ _ _ _ _ _ _ _ _ _ _ _ _ _ _ _ _ _ _ _ _ _ _ _ _ _ _ _ _ _ _ _ _ _ _ _ _ _ _ _ _ _ _ _ _ _ _ _ _ _ _ _ _ _ _ _ _ _ _ _ _ _ _ _ _ _ _ _ _ _ _ _ _ _ _ _ _ _ _ _ _ _ _ _ _ _ _ _ _ _ _ _ _ _ _ _ _ _ _ _ _ _ _ _ _ _ _ _ _ _ _ _ _ _ _ _ _ _ _ _ _ _ _ _ _ _ _ _ _ _ _ _ _ _ _ _ _ _ _ _ _ _ _ _ _ _ _ _ _ _ _ _ _ _ _ _ _ _ _ _ _ _ _ _ _ _ _ _ _ _ _ _ _ _ _ _ _ _ _ _ _ _ _ _ _ _ _ _ _ _ _ _ _ _ _ _ _ _ _ _ _ _ _ _ _ _ _ _ _ _ _ _ _ _ _ _ _ _ _ _ _ _ _ _ _ _ _ _ _ _ _ _ _ _ _ _ _ _ _ _ _ ?_
  intro x6u29 x6u30 x6u119 x6u120 x6u121 x6u122 x6u123 x6u124 x6u125 x6u126 x6u127 x6u128 x6u129 x6u130 x6u131 x6u132 x6u133 x6u134 x6u135 x6u136 x6u137 x6u138 x6u139 x6u140 x6u141 x6u142 x6u143 x6u144 x6u145 x6u146 x6u147 x6u148 x6u149 x6u150 x6u151 x6u152 x6u153 x6u154 x6u155 x6u156 x6u157 x6u158 x6u159 x6u160 x6u161 x6u162 x6u163 x6u164 x6u165 x6u166 x6u167 x6u168 x6u169 x6u170 x6u171 x6u172 x6u173 x6u174 x6u175 x6u176 x6u177 x6u178 x6u179 x6u180 x6u181 x6u182 x6u183 x6u184 x6u185 x6u186 x6u187 x6u188 x6u189 x6u190 x6u191 x6u192 x6u193 x6u194 x6u195 x6u196 x6u197 x6u198 x6u199 x6u200 x6u201 x6u202 x6u203 x6u204 x6u205 x6u206 x6u207 x6u208 x6u209 x6u210 x6u211 x6u212 x6u213 x6u214 x6u215 x6u216 x6u217 x6u218 x6u219 x6u220 x6u221 x6u222 x6u223 x6u224 x6u225 x6u226 x6u227 x6u228 x6u229 x6u230 x6u231 x6u232 x6u233 x6u234 x6u235 x6u236 x6u237 x6u238 x6u239 x6u240 x6u241 x6u242 x6u243 x6u244 x6u245 x6u246 x6u247 x6u248 x6u249 x6u250 x6u251 x6u252 x6u253 x6u254 x6u255 x6u256 x6u257 x6u258 x6u259 x6u260 w31
  rintro ⟨rfl, rfl, S6, m6, hm6, hm7, HK6⟩
  clear x5u119 x5u120 x5u121 x5u122 x5u123 x5u124 x5u125 x5u126 x5u127 x5u128 x5u129 x5u130 x5u131 x5u132 x5u133 x5u134 x5u135 x5u136 x5u137 x5u138 x5u139 x5u140 x5u141 x5u142 x5u143 x5u144 x5u145 x5u146 x5u147 x5u148 x5u149 x5u150 x5u151 x5u152 x5u153 x5u154 x5u155 x5u156 x5u157 x5u158 x5u159 x5u160 x5u161 x5u162 x5u163 x5u164 x5u165 x5u166 x5u167 x5u168 x5u169 x5u170 x5u171 x5u172 x5u173 x5u174 x5u175 x5u176 x5u177 x5u178 x5u179 x5u180 x5u181 x5u182 x5u183 x5u184 x5u185 x5u186 x5u187 x5u188 x5u189 x5u190 x5u191 x5u192 x5u193 x5u194 x5u195 x5u196 x5u197 x5u198 x5u199 x5u200 x5u201 x5u202 x5u203 x5u204 x5u205 x5u206 x5u207 x5u208 x5u209 x5u210 x5u211 x5u212 x5u213 x5u214 x5u215 x5u216 x5u217 x5u218 x5u219 x5u220 x5u221 x5u222 x5u223 x5u224 x5u225 x5u226 x5u227 x5u228 x5u229 x5u230 x5u231 x5u232 x5u233 x5u234 x5u235 x5u236 x5u237 x5u238 x5u239 x5u240 x5u241 x5u242 x5u243 x5u244 x5u245 x5u246 x5u247 x5u248 x5u249 x5u250 x5u251 x5u252 x5u253 x5u254 x5u255 x5u256 x5u257 x5u258 x5u259 x5u260
  clear hkn30 RR
  have SM := hide (fun (n : Int) (W : World) (h : Below w.heap.size w W) => As.same_any (errV 63 (lraE j3 nm x)) (lraE j3 nm x) n W (isErr_errV _ _) (HG.out _ h).1)
  refine s30k _ (by kernel_rfl) Lg (some ⟨b0, o0, none⟩) (some ⟨b1, o1, none⟩) a2 a3 a4 n0 n1 n2 n3 n4 c0 c1 c2 c3 c4 p (w31) (errV 63 (lraE j3 nm x)) (lraE j3 nm x == 6) (_) (hide (SM.out 6 w31 HK6.out.lo)) _ _ _ _ _ _ _ _ _ _ _ _ _ _ _ _ _ _ _ _ _ _ _ _ _ _ _ _ _ _ _ _ _ _ _ _ _ _ _ _ _ _ _ _ _ _ _ _ _ _ _ _ _ _ _ _ _ _ _ _ _ _ _ _ _ _ _ _ _ _ _ _ _ _ _ _ _ _ _ _ _ _ _ _ _ _ _ _ _ _ _ _ _ _ _ _ _ _ _ _ _ _ _ _ _ _ _ _ _ _ _ _ _ _ _ _ _ _ _ _ _ _ _ _ _ _ _ _ _ _ _ _ _ _ _ _ _ _ _ _ _ _ _ _ _ _ _ _ _ _ _ _ _ _ _ _ _ _ _ _ _ _ _ _ _ _ _ _ _ _ _ _ _ _ _ _ _ _ _ _ _ _ _ _ _ _ _ _ _ _ _ _ _ _ _ _ _ _ _ _ _ _ _ _ _ _ _ _ _ _ _ _ _ _ _ _ _ _ _ _ _ _ _ _ _ _ _ _ _ _ _ _ _ _ _ _ _ _ _ _ _ _ _ _ _ _ _ _ _ _ _ _ _ _ _ _ _ _ _ _ _ _ _ _ _ _ _ _ _ _ _ _ _ _ _ _ _ _ _ _ _ _ _ _ _ _ _ _ _ _ _ _ _ _ _ _ _ _ _ _ _ _ _ _ _ _ _ _ _ _ _ _ _ _ _ _ _ _ _ _ _ _ _ _ _ _ _ _ _ _ _ _ _ ?_
  intro x7u31 x7u119 x7u120 x7u121 x7u122 x7u123 x7u124 x7u125 x7u126 x7u127 x7u128 x7u129 x7u130 x7u131 x7u132 x7u133 x7u134 x7u135 x7u136 x7u137 x7u138 x7u139 x7u140 x7u141 x7u142 x7u143 x7u144 x7u145 x7u146 x7u147 x7u148 x7u149 x7u150 x7u151 x7u152 x7u153 x7u154 x7u155 x7u156 x7u157 x7u158 x7u159 x7u160 x7u161 x7u162 x7u163 x7u164 x7u165 x7u166 x7u167 x7u168 x7u169 x7u170 x7u171 x7u172 x7u173 x7u174 x7u175 x7u176 x7u177 x7u178 x7u179 x7u180 x7u181 x7u182 x7u183 x7u184 x7u185 x7u186 x7u187 x7u188 x7u189 x7u190 x7u191 x7u192 x7u193 x7u194 x7u195 x7u196 x7u197 x7u198 x7u199 x7u200 x7u201 x7u202 x7u203 x7u204 x7u205 x7u206 x7u207 x7u208 x7u209 x7u210 x7u211 x7u212 x7u213 x7u214 x7u215 x7u216 x7u217 x7u218 x7u219 x7u220 x7u221 x7u222 x7u223 x7u224 x7u225 x7u226 x7u227 x7u228 x7u229 x7u230 x7u231 x7u232 x7u233 x7u234 x7u235 x7u236 x7u237 x7u238 x7u239 x7u240 x7u241 x7u242 x7u243 x7u244 x7u245 x7u246 x7u247 x7u248 x7u249 x7u250 x7u251 x7u252 x7u253 x7u254 x7u255 x7u256 x7u257 x7u258 x7u259 x7u260 w40
  rintro ⟨rfl, hb40⟩
  clear x6u119 x6u120 x6u121 x6u122 x6u123 x6u124 x6u125 x6u126 x6u127 x6u128 x6u129 x6u130 x6u131 x6u132 x6u133 x6u134 x6u135 x6u136 x6u137 x6u138 x6u139 x6u140 x6u141 x6u142 x6u143 x6u144 x6u145 x6u146 x6u147 x6u148 x6u149 x6u150 x6u151 x6u152 x6u153 x6u154 x6u155 x6u156 x6u157 x6u158 x6u159 x6u160 x6u161 x6u162 x6u163 x6u164 x6u165 x6u166 x6u167 x6u168 x6u169 x6u170 x6u171 x6u172 x6u173 x6u174 x6u175 x6u176 x6u177 x6u178 x6u179 x6u180 x6u181 x6u182 x6u183 x6u184 x6u185 x6u186 x6u187 x6u188 x6u189 x6u190 x6u191 x6u192 x6u193 x6u194 x6u195 x6u196 x6u197 x6u198 x6u199 x6u200 x6u201 x6u202 x6u203 x6u204 x6u205 x6u206 x6u207 x6u208 x6u209 x6u210 x6u211 x6u212 x6u213 x6u214 x6u215 x6u216 x6u217 x6u218 x6u219 x6u220 x6u221 x6u222 x6u223 x6u224 x6u225 x6u226 x6u227 x6u228 x6u229 x6u230 x6u231 x6u232 x6u233 x6u234 x6u235 x6u236 x6u237 x6u238 x6u239 x6u240 x6u241 x6u242 x6u243 x6u244 x6u245 x6u246 x6u247 x6u248 x6u249 x6u250 x6u251 x6u252 x6u253 x6u254 x6u255 x6u256 x6u257 x6u258 x6u259 x6u260
  have HK40 := hide (HK6.out.below hb40)
  clear hb40 HK6
  refine s31k _ (by kernel_rfl) Lg (some ⟨b0, o0, none⟩) (some ⟨b1, o1, none⟩) a2 a3 a4 n0 n1 n2 n3 n4 c0 c1 c2 c3 c4 p (w40) (errV 63 (lraE j3 nm x)) (refE j3 nm x) (lraE j3 nm x == refE j3 nm x) (_) (hide (SM.out (refE j3 nm x) w40 HK40.out.lo)) _ _ _ _ _ _ _ _ _ _ _ _ _ _ _ _ _ _ _ _ _ _ _ _ _ _ _ _ _ _ _ _ _ _ _ _ _ _ _ _ _ _ _ _ _ _ _ _ _ _ _ _ _ _ _ _ _ _ _ _ _ _ _ _ _ _ _ _ _ _ _ _ _ _ _ _ _ _ _ _ _ _ _ _ _ _ _ _ _ _ _ _ _ _ _ _ _ _ _ _ _ _ _ _ _ _ _ _ _ _ _ _ _ _ _ _ _ _ _ _ _ _ _ _ _ _ _ _ _ _ _ _ _ _ _ _ _ _ _ _ _ _ _ _ _ _ _ _ _ _ _ _ _ _ _ _ _ _ _ _ _ _ _ _ _ _ _ _ _ _ _ _ _ _ _ _ _ _ _ _ _ _ _ _ _ _ _ _ _ _ _ _ _ _ _ _ _ _ _ _ _ _ _ _ _ _ _ _ _ _ _ _ _ _ _ _ _ _ _ _ _ _ _ _ _ _ _ _ _ _ _ _ _ _ _ _ _ _ _ _ _ _ _ _ _ _ _ _ _ _ _ _ _ _ _ _ _ _ _ _ _ _ _ _ _ _ _ _ _ _ _ _ _ _ _ _ _ _ _ _ _ _ _ _ _ _ _ _ _ _ _ _ _ _ _ _ _ _ _ _ _ _ _ _ _ _ _ _ _ _ _ _ _ _ _ _ _ _ _ _ _ _ _ _ _ _ _ _ _ _ _ _ ?_
  intro x8u32 x8u119 x8u120 x8u121 x8u122 x8u123 x8u124 x8u125 x8u126 x8u127 x8u128 x8u129 x8u130 x8u131 x8u132 x8u133 x8u134 x8u135 x8u136 x8u137 x8u138 x8u139 x8u140 x8u141 x8u142 x8u143 x8u144 x8u145 x8u146 x8u147 x8u148 x8u149 x8u150 x8u151 x8u152 x8u153 x8u154 x8u155 x8u156 x8u157 x8u158 x8u159 x8u160 x8u161 x8u162 x8u163 x8u164 x8u165 x8u166 x8u167 x8u168 x8u169 x8u170 x8u171 x8u172 x8u173 x8u174 x8u175 x8u176 x8u177 x8u178 x8u179 x8u180 x8u181 x8u182 x8u183 x8u184 x8u185 x8u186 x8u187 x8u188 x8u189 x8u190 x8u191 x8u192 x8u193 x8u194 x8u195 x8u196 x8u197 x8u198 x8u199 x8u200 x8u201 x8u202 x8u203 x8u204 x8u205 x8u206 x8u207 x8u208 x8u209 x8u210 x8u211 x8u212 x8u213 x8u214 x8u215 x8u216 x8u217 x8u218 x8u219 x8u220 x8u221 x8u222 x8u223 x8u224 x8u225 x8u226 x8u227 x8u228 x8u229 x8u230 x8u231 x8u232 x8u233 x8u234 x8u235 x8u236 x8u237 x8u238 x8u239 x8u240 x8u241 x8u242 x8u243 x8u244 x8u245 x8u246 x8u247 x8u248 x8u249 x8u250 x8u251 x8u252 x8u253 x8u254 x8u255 x8u256 x8u257 x8u258 x8u259 x8u260 w41
  rintro ⟨rfl, hb41⟩
  clear x7u119 x7u120 x7u121 x7u122 x7u123 x7u124 x7u125 x7u126 x7u127 x7u128 x7u129 x7u130 x7u131 x7u132 x7u133 x7u134 x7u135 x7u136 x7u137 x7u138 x7u139 x7u140 x7u141 x7u142 x7u143 x7u144 x7u145 x7u146 x7u147 x7u148 x7u149 x7u150 x7u151 x7u152 x7u153 x7u154 x7u155 x7u156 x7u157 x7u158 x7u159 x7u160 x7u161 x7u162 x7u163 x7u164 x7u165 x7u166 x7u167 x7u168 x7u169 x7u170 x7u171 x7u172 x7u173 x7u174 x7u175 x7u176 x7u177 x7u178 x7u179 x7u180 x7u181 x7u182 x7u183 x7u184 x7u185 x7u186 x7u187 x7u188 x7u189 x7u190 x7u191 x7u192 x7u193 x7u194 x7u195 x7u196 x7u197 x7u198 x7u199 x7u200 x7u201 x7u202 x7u203 x7u204 x7u205 x7u206 x7u207 x7u208 x7u209 x7u210 x7u211 x7u212 x7u213 x7u214 x7u215 x7u216 x7u217 x7u218 x7u219 x7u220 x7u221 x7u222 x7u223 x7u224 x7u225 x7u226 x7u227 x7u228 x7u229 x7u230 x7u231 x7u232 x7u233 x7u234 x7u235 x7u236 x7u237 x7u238 x7u239 x7u240 x7u241 x7u242 x7u243 x7u244 x7u245 x7u246 x7u247 x7u248 x7u249 x7u250 x7u251 x7u252 x7u253 x7u254 x7u255 x7u256 x7u257 x7u258 x7u259 x7u260
  have HK41 := hide (HK40.out.below hb41)
  clear hb41 HK40 SM
  have HQ : Hid (((lraE j3 nm x == 6) = true ∧ lraB j3 nm x = false) ∨ ((lraE j3 nm x == 6) = false ∧ (lraE j3 nm x == refE j3 nm x) = true ∧ lraB j3 nm x = refB j3 nm x)) := by
    by_cases h6 : lraE j3 nm x = 6
    · exact Or.inl ⟨by rw [h6]; rfl, (lra_six (n := m6) h6).1⟩
    · obtain ⟨q2, q3, _⟩ := lra_else (n := m6) h6
      exact Or.inr ⟨by simpa using h6, by rw [q2]; simp, q3⟩
  refine s32k _ (by kernel_rfl) Lg (some ⟨b0, o0, none⟩) (some ⟨b1, o1, none⟩) a2 a3 a4 n0 n1 n2 n3 n4 c0 c1 c2 c3 c4 p (w41) (lraE j3 nm x == 6) (lraE j3 nm x == refE j3 nm x) (lraB j3 nm x) (refB j3 nm x) HQ _ _ _ _ _ _ _ _ _ _ _ _ _ _ _ _ _ _ _ _ _ _ _ _ _ _ _ _ _ _ _ _ _ _ _ _ _ _ _ _ _ _ _ _ _ _ _ _ _ _ _ _ _ _ _ _ _ _ _ _ _ _ _ _ _ _ _ _ _ _ _ _ _ _ _ _ _ _ _ _ _ _ _ _ _ _ _ _ _ _ _ _ _ _ _ _ _ _ _ _ _ _ _ _ _ _ _ _ _ _ _ _ _ _ _ _ _ _ _ _ _ _ _ _ _ _ _ _ _ _ _ _ _ _ _ _ _ _ _ _ _ _ _ _ _ _ _ _ _ _ _ _ _ _ _ _ _ _ _ _ _ _ _ _ _ _ _ _ _ _ _ _ _ _ _ _ _ _ _ _ _ _ _ _ _ _ _ _ _ _ _ _ _ _ _ _ _ _ _ _ _ _ _ _ _ _ _ _ _ _ _ _ _ _ _ _ _ _ _ _ _ _ _ _ _ _ _ _ _ _ _ _ _ _ _ _ _ _ _ _ _ _ _ _ _ _ _ _ _ _ _ _ _ _ _ _ _ _ _ _ _ _ _ _ _ _ _ _ _ _ _ _ _ _ _ _ _ _ _ _ _ _ _ _ _ _ _ _ _ _ _ _ _ _ _ _ _ _ _ _ _ _ _ _ _ _ _ _ _ _ _ _ _ _ _ _ _ _ _ _ _ _ _ _ _ _ _ _ _ _ ?_
  intro x9u10 x9u119 x9u120 x9u121 x9u122 x9u123 x9u124 x9u125 x9u126 x9u127 x9u128 x9u129 x9u130 x9u131 x9u132 x9u133 x9u134 x9u135 x9u136 x9u137 x9u138 x9u139 x9u140 x9u141 x9u142 x9u143 x9u144 x9u145 x9u146 x9u147 x9u148 x9u149 x9u150 x9u151 x9u152 x9u153 x9u154 x9u155 x9u156 x9u157 x9u158 x9u159 x9u160 x9u161 x9u162 x9u163 x9u164 x9u165 x9u166 x9u167 x9u168 x9u169 x9u170 x9u171 x9u172 x9u173 x9u174 x9u175 x9u176 x9u177 x9u178 x9u179 x9u180 x9u181 x9u182 x9u183 x9u184 x9u185 x9u186 x9u187 x9u188 x9u189 x9u190 x9u191 x9u192 x9u193 x9u194 x9u195 x9u196 x9u197 x9u198 x9u199 x9u200 x9u201 x9u202 x9u203 x9u204 x9u205 x9u206 x9u207 x9u208 x9u209 x9u210 x9u211 x9u212 x9u213 x9u214 x9u215 x9u216 x9u217 x9u218 x9u219 x9u220 x9u221 x9u222 x9u223 x9u224 x9u225 x9u226 x9u227 x9u228 x9u229 x9u230 x9u231 x9u232 x9u233 x9u234 x9u235 x9u236 x9u237 x9u238 x9u239 x9u240 x9u241 x9u242 x9u243 x9u244 x9u245 x9u246 x9u247 x9u248 x9u249 x9u250 x9u251 x9u252 x9u253 x9u254 x9u255 x9u256 x9u257 x9u258 x9u259 x9u260 w42
  rintro rfl
  clear x8u119 x8u120 x8u121 x8u122 x8u123 x8u124 x8u125 x8u126 x8u127 x8u128 x8u129 x8u130 x8u131 x8u132 x8u133 x8u134 x8u135 x8u136 x8u137 x8u138 x8u139 x8u140 x8u141 x8u142 x8u143 x8u144 x8u145 x8u146 x8u147 x8u148 x8u149 x8u150 x8u151 x8u152 x8u153 x8u154 x8u155 x8u156 x8u157 x8u158 x8u159 x8u160 x8u161 x8u162 x8u163 x8u164 x8u165 x8u166 x8u167 x8u168 x8u169 x8u170 x8u171 x8u172 x8u173 x8u174 x8u175 x8u176 x8u177 x8u178 x8u179 x8u180 x8u181 x8u182 x8u183 x8u184 x8u185 x8u186 x8u187 x8u188 x8u189 x8u190 x8u191 x8u192 x8u193 x8u194 x8u195 x8u196 x8u197 x8u198 x8u199 x8u200 x8u201 x8u202 x8u203 x8u204 x8u205 x8u206 x8u207 x8u208 x8u209 x8u210 x8u211 x8u212 x8u213 x8u214 x8u215 x8u216 x8u217 x8u218 x8u219 x8u220 x8u221 x8u222 x8u223 x8u224 x8u225 x8u226 x8u227 x8u228 x8u229 x8u230 x8u231 x8u232 x8u233 x8u234 x8u235 x8u236 x8u237 x8u238 x8u239 x8u240 x8u241 x8u242 x8u243 x8u244 x8u245 x8u246 x8u247 x8u248 x8u249 x8u250 x8u251 x8u252 x8u253 x8u254 x8u255 x8u256 x8u257 x8u258 x8u259 x8u260
  refine s34k _ (by kernel_rfl) Lg HLL HBL (some ⟨b0, o0, none⟩) (some ⟨b1, o1, none⟩) a2 a3 a4 n0 n1 n2 n3 n4 c0 c1 c2 c3 c4 p w (w42) gd cd gm cm os ms nm x g2 v5 cs5 S6 j3 m6 (lraE j3 nm x) (refB j3 nm x) (errV 63 (lraE j3 nm x)) (hide rfl) HOL HML HKR3 (hide hof5) (hide hok5) (hide (fun h => hne5 (refB_rai j3 nm x h))) (hide (fun h => (lra_six (n := m6) h).2)) (hide (fun h => And.intro (lra_else (n := m6) h).2.2.1 (fun h2 => ((lra_else (n := m6) h).2.2.2 h2).1))) (hide (fun h h2 => (lra_yes HOKL.out m6 h h2).2)) hm6 hm7 hbb hj30 (HK41) _ _ _ _ _ _ _ _ _ _ _ _ _ _ _ _ _ _ _ _ _ _ _ _ _ _ _ _ _ _ _ _ _ _ _ _ _ _ _ _ _ _ _ _ _ _ _ _ _ _ _ _ _ _ _ _ _ _ _ _ _ _ _ _ _ _ _ _ _ _ _ _ _ _ _ _ _ _ _ _ _ _ _ _ _ _ _ _ _ _ _ _ _ _ _ _ _ _ _ _ _ _ _ _ _ _ _ _ _ _ _ _ _ _ _ _ _ _ _ _ _ _ _ _ _ _ _ _ _ _ _ _ _ _ _ _ _ _ _ _ _ _ _ _ _ _ _ _ _ _ _ _ _ _ _ _ _ _ _ _ _ _ _ _ _ _ _ _ _ _ _ _ _ _ _ _ _ _ _ _ _ _ _ _ _ _ _ _ _ _ _ _ _ _ _ _ _ _ _ _ _ _ _ _ _ _ _ _ _ _ _ _ _ _ _ _ _ _ _ _ _ _ _ _ _ _ _ _ _ _ _ _ _ _ _ _ _ _ _ _ _ _ _ _ _ _ _ _ _ _ _ _ _ _ _ _ _ _ _ _ _ _ _ _ _ _ _ _ _ _ _ _ _ _ _ _ _ _ _ _ _ _ _ _ _ _ _ _ _ _ _ _ _ _ _ _ _ _ _ _ _ _ _ _ _ _ _ _ _ _ _ _ _ _ _ _ _ _ _ _ _ _ _ _ _ _ _ _ ?_
  intro x10u10 x10u20 x10u21 x10u119 x10u120 x10u121 x10u122 x10u123 x10u124 x10u125 x10u126 x10u127 x10u128 x10u129 x10u130 x10u131 x10u132 x10u133 x10u134 x10u135 x10u136 x10u137 x10u138 x10u139 x10u140 x10u141 x10u142 x10u143 x10u144 x10u145 x10u146 x10u147 x10u148 x10u149 x10u150 x10u151 x10u152 x10u153 x10u154 x10u155 x10u156 x10u157 x10u158 x10u159 x10u160 x10u161 x10u162 x10u163 x10u164 x10u165 x10u166 x10u167 x10u168 x10u169 x10u170 x10u171 x10u172 x10u173 x10u174 x10u175 x10u176 x10u177 x10u178 x10u179 x10u180 x10u181 x10u182 x10u183 x10u184 x10u185 x10u186 x10u187 x10u188 x10u189 x10u190 x10u191 x10u192 x10u193 x10u194 x10u195 x10u196 x10u197 x10u198 x10u199 x10u200 x10u201 x10u202 x10u203 x10u204 x10u205 x10u206 x10u207 x10u208 x10u209 x10u210 x10u211 x10u212 x10u213 x10u214 x10u215 x10u216 x10u217 x10u218 x10u219 x10u220 x10u221 x10u222 x10u223 x10u224 x10u225 x10u226 x10u227 x10u228 x10u229 x10u230 x10u231 x10u232 x10u233 x10u234 x10u235 x10u236 x10u237 x10u238 x10u239 x10u240 x10u241 x10u242 x10u243 x10u244 x10u245 x10u246 x10u247 x10u248 x10u249 x10u250 x10u251 x10u252 x10u253 x10u254 x10u255 x10u256 x10u257 x10u258 x10u259 x10u260 w50
  rintro ⟨S8, j8, gd8, cd8, gm8, cm8, os8, ms8, rfl, rfl, HK8⟩
  clear x9u119 x9u120 x9u121 x9u122 x9u123 x9u124 x9u125 x9u126 x9u127 x9u128 x9u129 x9u130 x9u131 x9u132 x9u133 x9u134 x9u135 x9u136 x9u137 x9u138 x9u139 x9u140 x9u141 x9u142 x9u143 x9u144 x9u145 x9u146 x9u147 x9u148 x9u149 x9u150 x9u151 x9u152 x9u153 x9u154 x9u155 x9u156 x9u157 x9u158 x9u159 x9u160 x9u161 x9u162 x9u163 x9u164 x9u165 x9u166 x9u167 x9u168 x9u169 x9u170 x9u171 x9u172 x9u173 x9u174 x9u175 x9u176 x9u177 x9u178 x9u179 x9u180 x9u181 x9u182 x9u183 x9u184 x9u185 x9u186 x9u187 x9u188 x9u189 x9u190 x9u191 x9u192 x9u193 x9u194 x9u195 x9u196 x9u197 x9u198 x9u199 x9u200 x9u201 x9u202 x9u203 x9u204 x9u205 x9u206 x9u207 x9u208 x9u209 x9u210 x9u211 x9u212 x9u213 x9u214 x9u215 x9u216 x9u217 x9u218 x9u219 x9u220 x9u221 x9u222 x9u223 x9u224 x9u225 x9u226 x9u227 x9u228 x9u229 x9u230 x9u231 x9u232 x9u233 x9u234 x9u235 x9u236 x9u237 x9u238 x9u239 x9u240 x9u241 x9u242 x9u243 x9u244 x9u245 x9u246 x9u247 x9u248 x9u249 x9u250 x9u251 x9u252 x9u253 x9u254 x9u255 x9u256 x9u257 x9u258 x9u259 x9u260
  clear HK41 HQ hof5 hok5 hne5 HKR3
  obtain ⟨hol8, hml8, g8, v8, cs8, hoo8, hof8, hok8⟩ := rk_last HK8.out
  obtain ⟨hdc8, hy5, hy6⟩ := kq_cell HK8.out.1 hoo8
  clear hy5 hy6
  have AL8 := hide (AL.out p S8 j8 g8 v8 cs8 _ HK8.out.1.lo HK8.out.1.lg (HK8.out.1.ob hoo8).1 hof8.symm)
  have hj8 : j8.rs.length ≤ 30 := (HLL.out.ok HK8.out.1.lg).many
  have HOL8 := hide hol8
  rw [hol8]
  clear hol8
  refine s41k _ (by kernel_rfl) Lg (some ⟨b0, o0, none⟩) (some ⟨b1, o1, none⟩) a2 a3 a4 n0 n1 n2 n3 n4 c0 c1 c2 c3 c4 p (w50) at' (gd8) (cd8) (j8.rs.length) g8 (hj8) h1z hm1' (hdc8) AL8 _ _ _ _ _ _ _ _ _ _ _ _ _ _ _ _ _ _ _ _ _ _ _ _ _ _ _ _ _ _ _ _ _ _ _ _ _ _ _ _ _ _ _ _ _ _ _ _ _ _ _ _ _ _ _ _ _ _ _ _ _ _ _ _ _ _ _ _ _ _ _ _ _ _ _ _ _ _ _ _ _ _ _ _ _ _ _ _ _ _ _ _ _ _ _ _ _ _ _ _ _ _ _ _ _ _ _ _ _ _ _ _ _ _ _ _ _ _ _ _ _ _ _ _ _ _ _ _ _ _ _ _ _ _ _ _ _ _ _ _ _ _ _ _ _ _ _ _ _ _ _ _ _ _ _ _ _ _ _ _ _ _ _ _ _ _ _ _ _ _ _ _ _ _ _ _ _ _ _ _ _ _ _ _ _ _ _ _ _ _ _ _ _ _ _ _ _ _ _ _ _ _ _ _ _ _ _ _ _ _ _ _ _ _ _ _ _ _ _ _ _ _ _ _ _ _ _ _ _ _ _ _ _ _ _ _ _ _ _ _ _ _ _ _ _ _ _ _ _ _ _ _ _ _ _ _ _ _ _ _ _ _ _ _ _ _ _ _ _ _ _ _ _ _ _ _ _ _ _ _ _ _ _ _ _ _ _ _ _ _ _ _ _ _ _ _ _ _ _ _ _ _ _ _ _ _ _ _ _ _ _ _ _ _ _ _ _ _ _ _ _ _ _ _ _ _ _ _ _ _ _ _ ?_
  intro x11u10 x11u22 x11u33 x11u119 x11u120 x11u121 x11u122 x11u123 x11u124 x11u125 x11u126 x11u127 x11u128 x11u129 x11u130 x11u131 x11u132 x11u133 x11u134 x11u135 x11u136 x11u137 x11u138 x11u139 x11u140 x11u141 x11u142 x11u143 x11u144 x11u145 x11u146 x11u147 x11u148 x11u149 x11u150 x11u151 x11u152 x11u153 x11u154 x11u155 x11u156 x11u157 x11u158 x11u159 x11u160 x11u161 x11u162 x11u163 x11u164 x11u165 x11u166 x11u167 x11u168 x11u169 x11u170 x11u171 x11u172 x11u173 x11u174 x11u175 x11u176 x11u177 x11u178 x11u179 x11u180 x11u181 x11u182 x11u183 x11u184 x11u185 x11u186 x11u187 x11u188 x11u189 x11u190 x11u191 x11u192 x11u193 x11u194 x11u195 x11u196 x11u197 x11u198 x11u199 x11u200 x11u201 x11u202 x11u203 x11u204 x11u205 x11u206 x11u207 x11u208 x11u209 x11u210 x11u211 x11u212 x11u213 x11u214 x11u215 x11u216 x11u217 x11u218 x11u219 x11u220 x11u221 x11u222 x11u223 x11u224 x11u225 x11u226 x11u227 x11u228 x11u229 x11u230 x11u231 x11u232 x11u233 x11u234 x11u235 x11u236 x11u237 x11u238 x11u239 x11u240 x11u241 x11u242 x11u243 x11u244 x11u245 x11u246 x11u247 x11u248 x11u249 x11u250 x11u251 x11u252 x11u253 x11u254 x11u255 x11u256 x11u257 x11u258 x11u259 x11u260 w60
  rintro ⟨rfl, hb60⟩
  clear x10u119 x10u120 x10u121 x10u122 x10u123 x10u124 x10u125 x10u126 x10u127 x10u128 x10u129 x10u130 x10u131 x10u132 x10u133 x10u134 x10u135 x10u136 x10u137 x10u138 x10u139 x10u140 x10u141 x10u142 x10u143 x10u144 x10u145 x10u146 x10u147 x10u148 x10u149 x10u150 x10u151 x10u152 x10u153 x10u154 x10u155 x10u156 x10u157 x10u158 x10u159 x10u160 x10u161 x10u162 x10u163 x10u164 x10u165 x10u166 x10u167 x10u168 x10u169 x10u170 x10u171 x10u172 x10u173 x10u174 x10u175 x10u176 x10u177 x10u178 x10u179 x10u180 x10u181 x10u182 x10u183 x10u184 x10u185 x10u186 x10u187 x10u188 x10u189 x10u190 x10u191 x10u192 x10u193 x10u194 x10u195 x10u196 x10u197 x10u198 x10u199 x10u200 x10u201 x10u202 x10u203 x10u204 x10u205 x10u206 x10u207 x10u208 x10u209 x10u210 x10u211 x10u212 x10u213 x10u214 x10u215 x10u216 x10u217 x10u218 x10u219 x10u220 x10u221 x10u222 x10u223 x10u224 x10u225 x10u226 x10u227 x10u228 x10u229 x10u230 x10u231 x10u232 x10u233 x10u234 x10u235 x10u236 x10u237 x10u238 x10u239 x10u240 x10u241 x10u242 x10u243 x10u244 x10u245 x10u246 x10u247 x10u248 x10u249 x10u250 x10u251 x10u252 x10u253 x10u254 x10u255 x10u256 x10u257 x10u258 x10u259 x10u260
  have HK61 : Hid (RK HLL.out w p S8 j8 gd8 cd8 gm8 cm8 os8 ms8 w60) := ⟨HK8.out.1.below hb60, HK8.out.2⟩
  clear hb60 HK8 AL8 hdc8
  (repeat apply Exists.intro)
  refine ⟨?_, rfl⟩
  exact ⟨S8, j8, gd8, cd8, gm8, cm8, os8, ms8, by rw [HOL8.out], rfl, rfl, HK61⟩
set_option maxRecDepth 100000 in
theorem bodyk : ∀ (e0 : Code) (he0 : Tryz.f3.body.bind (blockAt 3) = some e0) (Lg : World → Nat → Value → (Nat → Prop) → LS → Prop) (HLL : Hid (Core Lg)) (HRL : Hid (RaiseLaw Lg)) (HSL : Hid (SyncLaw Lg)) (HBL : Hid (BytesLaw Lg)) (HSF : Hid (SafeLaw Lg)) (a0 a1 a2 a3 a4 : Option Addr) (n0 n1 n2 n3 n4 c0 c1 c2 c3 c4 : Nat) (p : Value) (w wc : World) (ns : List ByteArray) (ls ys : List Int) (HG : Hid (∀ (W : World), Below w.heap.size w W → As.Handle W ∧ Image.Has W)) (HN0 : Hid (n0 = ns.length)) (HM0 : Hid (n0 ≤ maxLen)) (HR0 : Hid (RRow 1 txtV w a0 ns)) (HZ0 : Hid (∀ s ∈ ns, s.size ≤ 140737488351232)) (HN1 : Hid (n1 = ls.length)) (HR1 : Hid (Row w a1 ls)) (HN2 : Hid (n2 = ys.length)) (HR2 : Hid (Row w a2 ys)) (hm0' : n0 ≤ 9223372036854775807) (hm1' : n1 ≤ 9223372036854775807) (hm2' : n2 ≤ 9223372036854775807) (AL : Hid (∀ (p : Value) (S : Nat → Prop) (j : LS) (g : Nat) (v : Value) (cs : Cs) (W : World), Below w.heap.size w W → Lg W w.heap.size p S j → CntRef.CIs W w.heap.size g v cs → j.f = CntRef.ofC cs →
      Calls Tryz.prog 16 #[p, .pointer (some ⟨g, 0, none⟩), .slice a0 n0 c0] W fun e w' => e = .returned (.bool true) ∧ Below W.heap.size W w')) (at' : Nat) (gd cd gm cm : Nat) (os : List Ob) (ms : List Nat) (S : Nat → Prop) (j : LS) (h0 : at' < n0) (h1 : at' < n1) (HK : Hid (RK HLL.out w p S j gd cd gm cm os ms wc))
    (t5 t6 t7 t8 t9 t10 t11 t12 t13 t14 t15 t16 t17 t18 t23 t24 t25 t26 t27 t28 t29 t30 t31 t32 t33 t34 t35 t36 t37 t38 t39 t40 t41 t42 t43 t44 t45 t46 t47 t48 t49 t50 t51 t52 t53 t54 t55 t56 t57 t58 t59 t60 t61 t62 t63 t64 t65 t66 t67 t68 t69 t70 t71 t72 t73 t74 t75 t76 t77 t78 t79 t80 t81 t82 t83 t84 t85 t86 t87 t88 t89 t90 t91 t92 t93 t94 t95 t96 t97 t98 t99 t100 t101 t102 t103 t104 t105 t106 t107 t108 t109 t110 t111 t112 t113 t114 t115 t116 t117 t118 t119 t120 t121 t122 t123 t124 t125 t126 t127 t128 t129 t130 t131 t132 t133 t134 t135 t136 t137 t138 t139 t140 t141 t142 t143 t144 t145 t146 t147 t148 t149 t150 t151 t152 t153 t154 t155 t156 t157 t158 t159 t160 t161 t162 t163 t164 t165 t166 t167 t168 t169 t170 t171 t172 t173 t174 t175 t176 t177 t178 t179 t180 t181 t182 t183 t184 t185 t186 t187 t188 t189 t190 t191 t192 t193 t194 t195 t196 t197 t198 t199 t200 t201 t202 t203 t204 t205 t206 t207 t208 t209 t210 t211 t212 t213 t214 t215 t216 t217 t218 t219 t220 t221 t222 t223 t224 t225 t226 t227 t228 t229 t230 t231 t232 t233 t234 t235 t236 t237 t238 t239 t240 t241 t242 t243 t244 t245 t246 t247 t248 t249 t250 t251 t252 t253 t254 t255 t256 t257 t258 t259 t260 t261 t262 t263 t264 t265 t266 t267 t268 t269 t270 t271 t272 t273 t274 t275 t276 t277 t278 t279 t280 t281 t282 t283 t284 t285 t286 t287 t288 t289 t290 t291 t292 t293 t294 t295 t296 t297 t298 t299 t300 t301 t302 t303 t304 t305 t306 t307 t308 t309 t310 t311 t312 t313 t314 t315 t316 t317 t318 t319 t320 t321 t322 t323 t324 t325 t326 t327 t328 t329 t330 t331 t332 t333 t334 t335 t336 t337 t338 t339 : Value) {Kc : Act → World → Prop} {Qc : Exit → Act → World → Prop} (hr : ∀ (u10 u20 u21 u22 u25 u26 u27 u28 u29 u30 u31 u32 u33 u119 u120 u121 u122 u123 u124 u125 u126 u127 u128 u129 u130 u131 u132 u133 u134 u135 u136 u137 u138 u139 u140 u141 u142 u143 u144 u145 u146 u147 u148 u149 u150 u151 u152 u153 u154 u155 u156 u157 u158 u159 u160 u161 u162 u163 u164 u165 u166 u167 u168 u169 u170 u171 u172 u173 u174 u175 u176 u177 u178 u179 u180 u181 u182 u183 u184 u185 u186 u187 u188 u189 u190 u191 u192 u193 u194 u195 u196 u197 u198 u199 u200 u201 u202 u203 u204 u205 u206 u207 u208 u209 u210 u211 u212 u213 u214 u215 u216 u217 u218 u219 u220 u221 u222 u223 u224 u225 u226 u227 u228 u229 u230 u231 u232 u233 u234 u235 u236 u237 u238 u239 u240 u241 u242 u243 u244 u245 u246 u247 u248 u249 u250 u251 u252 u253 u254 u255 u256 u257 u258 u259 u260 : Value) (w' : World), (∃ (S : Nat → Prop) (j : LS) (gd cd gm cm : Nat) (os : List Ob) (ms : List Nat), u20 = .slice (some ⟨gd, 0, none⟩) os.length cd ∧ u21 = .slice (some ⟨gm, 0, none⟩) ms.length cm ∧ u22 = .int .i64 ((at' + 1 : Nat) : Int) ∧ Hid (RK HLL.out w p S j gd cd gm cm os ms w')) → Kc { tmps := List.toArray (.slice a0 n0 c0 :: .slice a1 n1 c1 :: .slice a2 n2 c2 :: .slice a3 n3 c3 :: .slice a4 n4 c4 :: t5 :: t6 :: t7 :: t8 :: t9 :: u10 :: t11 :: t12 :: t13 :: t14 :: t15 :: t16 :: t17 :: t18 :: p :: u20 :: u21 :: u22 :: t23 :: t24 :: u25 :: u26 :: u27 :: u28 :: u29 :: u30 :: u31 :: u32 :: u33 :: t34 :: t35 :: t36 :: t37 :: t38 :: t39 :: t40 :: t41 :: t42 :: t43 :: t44 :: t45 :: t46 :: t47 :: t48 :: t49 :: t50 :: t51 :: t52 :: t53 :: t54 :: t55 :: t56 :: t57 :: t58 :: t59 :: t60 :: t61 :: t62 :: t63 :: t64 :: t65 :: t66 :: t67 :: t68 :: t69 :: t70 :: t71 :: t72 :: t73 :: t74 :: t75 :: t76 :: t77 :: t78 :: t79 :: t80 :: t81 :: t82 :: t83 :: t84 :: t85 :: t86 :: t87 :: t88 :: t89 :: t90 :: t91 :: t92 :: t93 :: t94 :: t95 :: t96 :: t97 :: t98 :: t99 :: t100 :: t101 :: t102 :: t103 :: t104 :: t105 :: t106 :: t107 :: t108 :: t109 :: t110 :: t111 :: t112 :: t113 :: t114 :: t115 :: t116 :: t117 :: t118 :: u119 :: u120 :: u121 :: u122 :: u123 :: u124 :: u125 :: u126 :: u127 :: u128 :: u129 :: u130 :: u131 :: u132 :: u133 :: u134 :: u135 :: u136 :: u137 :: u138 :: u139 :: u140 :: u141 :: u142 :: u143 :: u144 :: u145 :: u146 :: u147 :: u148 :: u149 :: u150 :: u151 :: u152 :: u153 :: u154 :: u155 :: u156 :: u157 :: u158 :: u159 :: u160 :: u161 :: u162 :: u163 :: u164 :: u165 :: u166 :: u167 :: u168 :: u169 :: u170 :: u171 :: u172 :: u173 :: u174 :: u175 :: u176 :: u177 :: u178 :: u179 :: u180 :: u181 :: u182 :: u183 :: u184 :: u185 :: u186 :: u187 :: u188 :: u189 :: u190 :: u191 :: u192 :: u193 :: u194 :: u195 :: u196 :: u197 :: u198 :: u199 :: u200 :: u201 :: u202 :: u203 :: u204 :: u205 :: u206 :: u207 :: u208 :: u209 :: u210 :: u211 :: u212 :: u213 :: u214 :: u215 :: u216 :: u217 :: u218 :: u219 :: u220 :: u221 :: u222 :: u223 :: u224 :: u225 :: u226 :: u227 :: u228 :: u229 :: u230 :: u231 :: u232 :: u233 :: u234 :: u235 :: u236 :: u237 :: u238 :: u239 :: u240 :: u241 :: u242 :: u243 :: u244 :: u245 :: u246 :: u247 :: u248 :: u249 :: u250 :: u251 :: u252 :: u253 :: u254 :: u255 :: u256 :: u257 :: u258 :: u259 :: u260 :: t261 :: t262 :: t263 :: t264 :: t265 :: t266 :: t267 :: t268 :: t269 :: t270 :: t271 :: t272 :: t273 :: t274 :: t275 :: t276 :: t277 :: t278 :: t279 :: t280 :: t281 :: t282 :: t283 :: t284 :: t285 :: t286 :: t287 :: t288 :: t289 :: t290 :: t291 :: t292 :: t293 :: t294 :: t295 :: t296 :: t297 :: t298 :: t299 :: t300 :: t301 :: t302 :: t303 :: t304 :: t305 :: t306 :: t307 :: t308 :: t309 :: t310 :: t311 :: t312 :: t313 :: t314 :: t315 :: t316 :: t317 :: t318 :: t319 :: t320 :: t321 :: t322 :: t323 :: t324 :: t325 :: t326 :: t327 :: t328 :: t329 :: t330 :: t331 :: t332 :: t333 :: t334 :: t335 :: t336 :: t337 :: t338 :: t339 :: []), defers := [] } w'),
    e0.wp Tryz.prog (Exit.then Kc Qc) { tmps := List.toArray (.slice a0 n0 c0 :: .slice a1 n1 c1 :: .slice a2 n2 c2 :: .slice a3 n3 c3 :: .slice a4 n4 c4 :: t5 :: t6 :: t7 :: t8 :: t9 :: t10 :: t11 :: t12 :: t13 :: t14 :: t15 :: t16 :: t17 :: t18 :: p :: .slice (some ⟨gd, 0, none⟩) os.length cd :: .slice (some ⟨gm, 0, none⟩) ms.length cm :: .int .i64 at' :: t23 :: t24 :: t25 :: t26 :: t27 :: t28 :: t29 :: t30 :: t31 :: t32 :: t33 :: t34 :: t35 :: t36 :: t37 :: t38 :: t39 :: t40 :: t41 :: t42 :: t43 :: t44 :: t45 :: t46 :: t47 :: t48 :: t49 :: t50 :: t51 :: t52 :: t53 :: t54 :: t55 :: t56 :: t57 :: t58 :: t59 :: t60 :: t61 :: t62 :: t63 :: t64 :: t65 :: t66 :: t67 :: t68 :: t69 :: t70 :: t71 :: t72 :: t73 :: t74 :: t75 :: t76 :: t77 :: t78 :: t79 :: t80 :: t81 :: t82 :: t83 :: t84 :: t85 :: t86 :: t87 :: t88 :: t89 :: t90 :: t91 :: t92 :: t93 :: t94 :: t95 :: t96 :: t97 :: t98 :: t99 :: t100 :: t101 :: t102 :: t103 :: t104 :: t105 :: t106 :: t107 :: t108 :: t109 :: t110 :: t111 :: t112 :: t113 :: t114 :: t115 :: t116 :: t117 :: t118 :: t119 :: t120 :: t121 :: t122 :: t123 :: t124 :: t125 :: t126 :: t127 :: t128 :: t129 :: t130 :: t131 :: t132 :: t133 :: t134 :: t135 :: t136 :: t137 :: t138 :: t139 :: t140 :: t141 :: t142 :: t143 :: t144 :: t145 :: t146 :: t147 :: t148 :: t149 :: t150 :: t151 :: t152 :: t153 :: t154 :: t155 :: t156 :: t157 :: t158 :: t159 :: t160 :: t161 :: t162 :: t163 :: t164 :: t165 :: t166 :: t167 :: t168 :: t169 :: t170 :: t171 :: t172 :: t173 :: t174 :: t175 :: t176 :: t177 :: t178 :: t179 :: t180 :: t181 :: t182 :: t183 :: t184 :: t185 :: t186 :: t187 :: t188 :: t189 :: t190 :: t191 :: t192 :: t193 :: t194 :: t195 :: t196 :: t197 :: t198 :: t199 :: t200 :: t201 :: t202 :: t203 :: t204 :: t205 :: t206 :: t207 :: t208 :: t209 :: t210 :: t211 :: t212 :: t213 :: t214 :: t215 :: t216 :: t217 :: t218 :: t219 :: t220 :: t221 :: t222 :: t223 :: t224 :: t225 :: t226 :: t227 :: t228 :: t229 :: t230 :: t231 :: t232 :: t233 :: t234 :: t235 :: t236 :: t237 :: t238 :: t239 :: t240 :: t241 :: t242 :: t243 :: t244 :: t245 :: t246 :: t247 :: t248 :: t249 :: t250 :: t251 :: t252 :: t253 :: t254 :: t255 :: t256 :: t257 :: t258 :: t259 :: t260 :: t261 :: t262 :: t263 :: t264 :: t265 :: t266 :: t267 :: t268 :: t269 :: t270 :: t271 :: t272 :: t273 :: t274 :: t275 :: t276 :: t277 :: t278 :: t279 :: t280 :: t281 :: t282 :: t283 :: t284 :: t285 :: t286 :: t287 :: t288 :: t289 :: t290 :: t291 :: t292 :: t293 :: t294 :: t295 :: t296 :: t297 :: t298 :: t299 :: t300 :: t301 :: t302 :: t303 :: t304 :: t305 :: t306 :: t307 :: t308 :: t309 :: t310 :: t311 :: t312 :: t313 :: t314 :: t315 :: t316 :: t317 :: t318 :: t319 :: t320 :: t321 :: t322 :: t323 :: t324 :: t325 :: t326 :: t327 :: t328 :: t329 :: t330 :: t331 :: t332 :: t333 :: t334 :: t335 :: t336 :: t337 :: t338 :: t339 :: []), defers := [] } wc := by
  intro e0 he0 Lg HLL HRL HSL HBL HSF a0 a1 a2 a3 a4 n0 n1 n2 n3 n4 c0 c1 c2 c3 c4 p w wc ns ls ys HG HN0 HM0 HR0 HZ0 HN1 HR1 HN2 HR2 hm0' hm1' hm2' AL at' gd cd gm cm os ms S j h0 h1 HK t5 t6 t7 t8 t9 t10 t11 t12 t13 t14 t15 t16 t17 t18 t23 t24 t25 t26 t27 t28 t29 t30 t31 t32 t33 t34 t35 t36 t37 t38 t39 t40 t41 t42 t43 t44 t45 t46 t47 t48 t49 t50 t51 t52 t53 t54 t55 t56 t57 t58 t59 t60 t61 t62 t63 t64 t65 t66 t67 t68 t69 t70 t71 t72 t73 t74 t75 t76 t77 t78 t79 t80 t81 t82 t83 t84 t85 t86 t87 t88 t89 t90 t91 t92 t93 t94 t95 t96 t97 t98 t99 t100 t101 t102 t103 t104 t105 t106 t107 t108 t109 t110 t111 t112 t113 t114 t115 t116 t117 t118 t119 t120 t121 t122 t123 t124 t125 t126 t127 t128 t129 t130 t131 t132 t133 t134 t135 t136 t137 t138 t139 t140 t141 t142 t143 t144 t145 t146 t147 t148 t149 t150 t151 t152 t153 t154 t155 t156 t157 t158 t159 t160 t161 t162 t163 t164 t165 t166 t167 t168 t169 t170 t171 t172 t173 t174 t175 t176 t177 t178 t179 t180 t181 t182 t183 t184 t185 t186 t187 t188 t189 t190 t191 t192 t193 t194 t195 t196 t197 t198 t199 t200 t201 t202 t203 t204 t205 t206 t207 t208 t209 t210 t211 t212 t213 t214 t215 t216 t217 t218 t219 t220 t221 t222 t223 t224 t225 t226 t227 t228 t229 t230 t231 t232 t233 t234 t235 t236 t237 t238 t239 t240 t241 t242 t243 t244 t245 t246 t247 t248 t249 t250 t251 t252 t253 t254 t255 t256 t257 t258 t259 t260 t261 t262 t263 t264 t265 t266 t267 t268 t269 t270 t271 t272 t273 t274 t275 t276 t277 t278 t279 t280 t281 t282 t283 t284 t285 t286 t287 t288 t289 t290 t291 t292 t293 t294 t295 t296 t297 t298 t299 t300 t301 t302 t303 t304 t305 t306 t307 t308 t309 t310 t311 t312 t313 t314 t315 t316 t317 t318 t319 t320 t321 t322 t323 t324 t325 t326 t327 t328 t329 t330 t331 t332 t333 t334 t335 t336 t337 t338 t339 Kc Qc hr
  refine wp_cont (body e0 he0 Lg HLL HRL HSL HBL HSF a0 a1 a2 a3 a4 n0 n1 n2 n3 n4 c0 c1 c2 c3 c4 p w wc ns ls ys HG HN0 HM0 HR0 HZ0 HN1 HR1 HN2 HR2 hm0' hm1' hm2' AL at' gd cd gm cm os ms S j h0 h1 HK t5 t6 t7 t8 t9 t10 t11 t12 t13 t14 t15 t16 t17 t18 t23 t24 t25 t26 t27 t28 t29 t30 t31 t32 t33 t34 t35 t36 t37 t38 t39 t40 t41 t42 t43 t44 t45 t46 t47 t48 t49 t50 t51 t52 t53 t54 t55 t56 t57 t58 t59 t60 t61 t62 t63 t64 t65 t66 t67 t68 t69 t70 t71 t72 t73 t74 t75 t76 t77 t78 t79 t80 t81 t82 t83 t84 t85 t86 t87 t88 t89 t90 t91 t92 t93 t94 t95 t96 t97 t98 t99 t100 t101 t102 t103 t104 t105 t106 t107 t108 t109 t110 t111 t112 t113 t114 t115 t116 t117 t118 t119 t120 t121 t122 t123 t124 t125 t126 t127 t128 t129 t130 t131 t132 t133 t134 t135 t136 t137 t138 t139 t140 t141 t142 t143 t144 t145 t146 t147 t148 t149 t150 t151 t152 t153 t154 t155 t156 t157 t158 t159 t160 t161 t162 t163 t164 t165 t166 t167 t168 t169 t170 t171 t172 t173 t174 t175 t176 t177 t178 t179 t180 t181 t182 t183 t184 t185 t186 t187 t188 t189 t190 t191 t192 t193 t194 t195 t196 t197 t198 t199 t200 t201 t202 t203 t204 t205 t206 t207 t208 t209 t210 t211 t212 t213 t214 t215 t216 t217 t218 t219 t220 t221 t222 t223 t224 t225 t226 t227 t228 t229 t230 t231 t232 t233 t234 t235 t236 t237 t238 t239 t240 t241 t242 t243 t244 t245 t246 t247 t248 t249 t250 t251 t252 t253 t254 t255 t256 t257 t258 t259 t260 t261 t262 t263 t264 t265 t266 t267 t268 t269 t270 t271 t272 t273 t274 t275 t276 t277 t278 t279 t280 t281 t282 t283 t284 t285 t286 t287 t288 t289 t290 t291 t292 t293 t294 t295 t296 t297 t298 t299 t300 t301 t302 t303 t304 t305 t306 t307 t308 t309 t310 t311 t312 t313 t314 t315 t316 t317 t318 t319 t320 t321 t322 t323 t324 t325 t326 t327 t328 t329 t330 t331 t332 t333 t334 t335 t336 t337 t338 t339) ?_
  intro a' w' hinv
  obtain ⟨u10, hinv⟩ := hinv
  obtain ⟨u20, hinv⟩ := hinv
  obtain ⟨u21, hinv⟩ := hinv
  obtain ⟨u22, hinv⟩ := hinv
  obtain ⟨u25, hinv⟩ := hinv
  obtain ⟨u26, hinv⟩ := hinv
  obtain ⟨u27, hinv⟩ := hinv
  obtain ⟨u28, hinv⟩ := hinv
  obtain ⟨u29, hinv⟩ := hinv
  obtain ⟨u30, hinv⟩ := hinv
  obtain ⟨u31, hinv⟩ := hinv
  obtain ⟨u32, hinv⟩ := hinv
  obtain ⟨u33, hinv⟩ := hinv
  obtain ⟨u119, hinv⟩ := hinv
  obtain ⟨u120, hinv⟩ := hinv
  obtain ⟨u121, hinv⟩ := hinv
  obtain ⟨u122, hinv⟩ := hinv
  obtain ⟨u123, hinv⟩ := hinv
  obtain ⟨u124, hinv⟩ := hinv
  obtain ⟨u125, hinv⟩ := hinv
  obtain ⟨u126, hinv⟩ := hinv
  obtain ⟨u127, hinv⟩ := hinv
  obtain ⟨u128, hinv⟩ := hinv
  obtain ⟨u129, hinv⟩ := hinv
  obtain ⟨u130, hinv⟩ := hinv
  obtain ⟨u131, hinv⟩ := hinv
  obtain ⟨u132, hinv⟩ := hinv
  obtain ⟨u133, hinv⟩ := hinv
  obtain ⟨u134, hinv⟩ := hinv
  obtain ⟨u135, hinv⟩ := hinv
  obtain ⟨u136, hinv⟩ := hinv
  obtain ⟨u137, hinv⟩ := hinv
  obtain ⟨u138, hinv⟩ := hinv
  obtain ⟨u139, hinv⟩ := hinv
  obtain ⟨u140, hinv⟩ := hinv
  obtain ⟨u141, hinv⟩ := hinv
  obtain ⟨u142, hinv⟩ := hinv
  obtain ⟨u143, hinv⟩ := hinv
  obtain ⟨u144, hinv⟩ := hinv
  obtain ⟨u145, hinv⟩ := hinv
  obtain ⟨u146, hinv⟩ := hinv
  obtain ⟨u147, hinv⟩ := hinv
  obtain ⟨u148, hinv⟩ := hinv
  obtain ⟨u149, hinv⟩ := hinv
  obtain ⟨u150, hinv⟩ := hinv
  obtain ⟨u151, hinv⟩ := hinv
  obtain ⟨u152, hinv⟩ := hinv
  obtain ⟨u153, hinv⟩ := hinv
  obtain ⟨u154, hinv⟩ := hinv
  obtain ⟨u155, hinv⟩ := hinv
  obtain ⟨u156, hinv⟩ := hinv
  obtain ⟨u157, hinv⟩ := hinv
  obtain ⟨u158, hinv⟩ := hinv
  obtain ⟨u159, hinv⟩ := hinv
  obtain ⟨u160, hinv⟩ := hinv
  obtain ⟨u161, hinv⟩ := hinv
  obtain ⟨u162, hinv⟩ := hinv
  obtain ⟨u163, hinv⟩ := hinv
  obtain ⟨u164, hinv⟩ := hinv
  obtain ⟨u165, hinv⟩ := hinv
  obtain ⟨u166, hinv⟩ := hinv
  obtain ⟨u167, hinv⟩ := hinv
  obtain ⟨u168, hinv⟩ := hinv
  obtain ⟨u169, hinv⟩ := hinv
  obtain ⟨u170, hinv⟩ := hinv
  obtain ⟨u171, hinv⟩ := hinv
  obtain ⟨u172, hinv⟩ := hinv
  obtain ⟨u173, hinv⟩ := hinv
  obtain ⟨u174, hinv⟩ := hinv
  obtain ⟨u175, hinv⟩ := hinv
  obtain ⟨u176, hinv⟩ := hinv
  obtain ⟨u177, hinv⟩ := hinv
  obtain ⟨u178, hinv⟩ := hinv
  obtain ⟨u179, hinv⟩ := hinv
  obtain ⟨u180, hinv⟩ := hinv
  obtain ⟨u181, hinv⟩ := hinv
  obtain ⟨u182, hinv⟩ := hinv
  obtain ⟨u183, hinv⟩ := hinv
  obtain ⟨u184, hinv⟩ := hinv
  obtain ⟨u185, hinv⟩ := hinv
  obtain ⟨u186, hinv⟩ := hinv
  obtain ⟨u187, hinv⟩ := hinv
  obtain ⟨u188, hinv⟩ := hinv
  obtain ⟨u189, hinv⟩ := hinv
  obtain ⟨u190, hinv⟩ := hinv
  obtain ⟨u191, hinv⟩ := hinv
  obtain ⟨u192, hinv⟩ := hinv
  obtain ⟨u193, hinv⟩ := hinv
  obtain ⟨u194, hinv⟩ := hinv
  obtain ⟨u195, hinv⟩ := hinv
  obtain ⟨u196, hinv⟩ := hinv
  obtain ⟨u197, hinv⟩ := hinv
  obtain ⟨u198, hinv⟩ := hinv
  obtain ⟨u199, hinv⟩ := hinv
  obtain ⟨u200, hinv⟩ := hinv
  obtain ⟨u201, hinv⟩ := hinv
  obtain ⟨u202, hinv⟩ := hinv
  obtain ⟨u203, hinv⟩ := hinv
  obtain ⟨u204, hinv⟩ := hinv
  obtain ⟨u205, hinv⟩ := hinv
  obtain ⟨u206, hinv⟩ := hinv
  obtain ⟨u207, hinv⟩ := hinv
  obtain ⟨u208, hinv⟩ := hinv
  obtain ⟨u209, hinv⟩ := hinv
  obtain ⟨u210, hinv⟩ := hinv
  obtain ⟨u211, hinv⟩ := hinv
  obtain ⟨u212, hinv⟩ := hinv
  obtain ⟨u213, hinv⟩ := hinv
  obtain ⟨u214, hinv⟩ := hinv
  obtain ⟨u215, hinv⟩ := hinv
  obtain ⟨u216, hinv⟩ := hinv
  obtain ⟨u217, hinv⟩ := hinv
  obtain ⟨u218, hinv⟩ := hinv
  obtain ⟨u219, hinv⟩ := hinv
  obtain ⟨u220, hinv⟩ := hinv
  obtain ⟨u221, hinv⟩ := hinv
  obtain ⟨u222, hinv⟩ := hinv
  obtain ⟨u223, hinv⟩ := hinv
  obtain ⟨u224, hinv⟩ := hinv
  obtain ⟨u225, hinv⟩ := hinv
  obtain ⟨u226, hinv⟩ := hinv
  obtain ⟨u227, hinv⟩ := hinv
  obtain ⟨u228, hinv⟩ := hinv
  obtain ⟨u229, hinv⟩ := hinv
  obtain ⟨u230, hinv⟩ := hinv
  obtain ⟨u231, hinv⟩ := hinv
  obtain ⟨u232, hinv⟩ := hinv
  obtain ⟨u233, hinv⟩ := hinv
  obtain ⟨u234, hinv⟩ := hinv
  obtain ⟨u235, hinv⟩ := hinv
  obtain ⟨u236, hinv⟩ := hinv
  obtain ⟨u237, hinv⟩ := hinv
  obtain ⟨u238, hinv⟩ := hinv
  obtain ⟨u239, hinv⟩ := hinv
  obtain ⟨u240, hinv⟩ := hinv
  obtain ⟨u241, hinv⟩ := hinv
  obtain ⟨u242, hinv⟩ := hinv
  obtain ⟨u243, hinv⟩ := hinv
  obtain ⟨u244, hinv⟩ := hinv
  obtain ⟨u245, hinv⟩ := hinv
  obtain ⟨u246, hinv⟩ := hinv
  obtain ⟨u247, hinv⟩ := hinv
  obtain ⟨u248, hinv⟩ := hinv
  obtain ⟨u249, hinv⟩ := hinv
  obtain ⟨u250, hinv⟩ := hinv
  obtain ⟨u251, hinv⟩ := hinv
  obtain ⟨u252, hinv⟩ := hinv
  obtain ⟨u253, hinv⟩ := hinv
  obtain ⟨u254, hinv⟩ := hinv
  obtain ⟨u255, hinv⟩ := hinv
  obtain ⟨u256, hinv⟩ := hinv
  obtain ⟨u257, hinv⟩ := hinv
  obtain ⟨u258, hinv⟩ := hinv
  obtain ⟨u259, hinv⟩ := hinv
  obtain ⟨u260, hinv⟩ := hinv
  obtain ⟨hrel, rfl⟩ := hinv
  exact hr u10 u20 u21 u22 u25 u26 u27 u28 u29 u30 u31 u32 u33 u119 u120 u121 u122 u123 u124 u125 u126 u127 u128 u129 u130 u131 u132 u133 u134 u135 u136 u137 u138 u139 u140 u141 u142 u143 u144 u145 u146 u147 u148 u149 u150 u151 u152 u153 u154 u155 u156 u157 u158 u159 u160 u161 u162 u163 u164 u165 u166 u167 u168 u169 u170 u171 u172 u173 u174 u175 u176 u177 u178 u179 u180 u181 u182 u183 u184 u185 u186 u187 u188 u189 u190 u191 u192 u193 u194 u195 u196 u197 u198 u199 u200 u201 u202 u203 u204 u205 u206 u207 u208 u209 u210 u211 u212 u213 u214 u215 u216 u217 u218 u219 u220 u221 u222 u223 u224 u225 u226 u227 u228 u229 u230 u231 u232 u233 u234 u235 u236 u237 u238 u239 u240 u241 u242 u243 u244 u245 u246 u247 u248 u249 u250 u251 u252 u253 u254 u255 u256 u257 u258 u259 u260 w' hrel
end Go.Proofs.YtgnpffkfbacejaaGreatDoor.LogKeeps
