/- impl.leastOverOrders, impl.PathwidthOf. -/
import Derived.Test.YtpifgmmmmhenmacPx
import Derived.Test.YtpifgmmmmhenmacK1
namespace Go.Proofs.Ytpifgmmmmhenmac
set_option linter.unusedVariables false
set_option linter.unusedSimpArgs false
open Go.RowKit

theorem ofAll_is (v : Value) (l : List Int) (w : World) (h : Ints w v l) (h0 : 0 < l.length) (hl : l.length ≤ 1048576) :
    Calls Try.prog 61 #[v] w fun e w' => e = .returned (.int .i64 (nth l (l.length - 1))) ∧ w = w' := by
  obtain ⟨b, off, cap, rfl, _, hm, hb, hcell⟩ := h.pos (by omega)
  have c0 := hcell (l.length - 1) (by omega)
  unfold maxLen at hm
  obtain ⟨m, hm'⟩ : ∃ m, l.length = m + 1 := ⟨l.length - 1, by omega⟩
  have hm9 : m < 1048576 := by omega
  have HM := Lib.hid hm'
  rw [show l.length - 1 = m by omega] at c0 ⊢
  rw [hm'] at *
  have q1 : IntKind.i64.wrap ((m : Int) + 1 - 1) = (m : Int) := IntWalk.i64_in _ (by omega) |>.trans (by omega)
  have q2 : IntKind.i64.wrap (((m + 1 : Nat) : Int) - 1) = (m : Int) := IntWalk.i64_in _ (by omega) |>.trans (by omega)
  obtain ⟨y, hy⟩ : ∃ y, y = nth l m := ⟨_, rfl⟩
  rw [← hy] at c0 ⊢
  clear h hcell hy hm'
  go_enter Try.func61, Try.ntmps61
  go_wp2
  go_ret
  exact ⟨rfl, rfl⟩

theorem enters_lo : Enters 59 := fun args W => by rfl

theorem memN_at {X k : Nat} (h : k < (memN X).length) : ∃ v, (memN X)[k]? = some v ∧ v < 7 ∧ X.testBit v = true ∧ nth ((memN X).map fun v : Nat => (v : Int)) k = (v : Int) ∧ (memN X).take (k + 1) = (memN X).take k ++ [v] := by
  refine ⟨(memN X)[k], List.getElem?_eq_getElem h, (mem_memN (List.getElem_mem h)).1, (mem_memN (List.getElem_mem h)).2, by simp [nth, List.getD, h], by rw [List.take_add_one, List.getElem?_eq_getElem h]; rfl⟩

theorem widB {x : Nat → Int} {c : Nat → Nat → Int} (s v : Nat) (h : s.testBit v = true) : nth (tabX x s) (s - 2 ^ v) = x (s - 2 ^ v) := tabX_at x (by have := bit_le h; have : 0 < 2 ^ v := Nat.pow_pos (by decide); omega)

theorem tabX_W (c : Nat → Nat → Int) : ∀ k, tabX (nextW c) k = tabW c k
  | 0 => rfl
  | k + 1 => by rw [tabX_succ, tabW_succ, tabX_W c k]

theorem bit_off {s v : Nat} (h : s.testBit v = true) : (s - 2 ^ v).testBit v = false ∧ s - 2 ^ v + 2 ^ v = s ∧ Sub (2 ^ v) s := by
  have hp := bit_le h
  refine ⟨?_, by omega, fun i hi => ?_⟩
  · have h3 : s = 2 ^ v + (s - 2 ^ v) := by omega
    rw [h3, Nat.testBit_two_pow_add_eq] at h
    simpa using h
  · rw [Nat.testBit_two_pow] at hi
    obtain rfl := of_decide_eq_true hi
    exact h

set_option maxHeartbeats 4000000 in
set_option maxRecDepth 100000 in
theorem lo_rule (f : FuncId) (cp : Array Value) (c : Nat → Nat → Int) (F qb : Nat) (hF : F ≤ 128) (w : World) (hc : w.cell? ⟨qb, 0, none⟩ = some (.func (.func f) #[] cp)) (hq : qb < w.heap.size) (he : Enters f) (hr : RuleC f cp c F w)
    (hx : ∀ s, s < F → 0 ≤ nextW c s ∧ nextW c s ≤ 1000) (hcb : ∀ b v, b + 2 ^ v < F → b.testBit v = false → 0 ≤ c b v ∧ c b v ≤ 1000) :
    RuleT 59 #[.pointer (some ⟨qb, 0, none⟩)] (nextW c) F w := by
  intro W tv s hs hW hI
  show Calls Try.prog 59 #[tv, .int .i64 s, .pointer (some ⟨qb, 0, none⟩)] W _
  have HX := Lib.hid hx
  have HCB := Lib.hid hcb
  have HR := Lib.hid hr
  have HI := Lib.hid hI
  have HW := Lib.hid hW
  have HC : Hid (∀ W', Below W.heap.size W W' → W'.cell? ⟨qb, 0, none⟩ = some (.func (.func f) #[] cp)) := fun W' h' => (((hW.trans (h'.mono hW.size))).cell (p := ⟨qb, 0, none⟩) hq).trans hc
  have HQ := Lib.hid (show qb < W.heap.size from Nat.lt_of_lt_of_le hq hW.size)
  have hs7 : s < 128 := by omega
  unfold Enters at he
  clear hx hcb hr hI hW hc
  go_enter Try.func59, Try.ntmps59
  go_wp2_with fail
  refine (implListOf (s : Int) _).mono ?_
  rintro e w1 ⟨vz, rfl, ho, hb⟩
  have hLM : listR (s : Int) = (memN s).map fun v : Nat => (v : Int) := by
    unfold listR
    rw [if_pos (by omega)]
    exact listU_nat s
  rw [hLM] at ho
  obtain ⟨m, hm⟩ : ∃ m, m = (memN s).length := ⟨_, rfl⟩
  have hm7 : m ≤ 7 := by
    rw [hm, ← memU_nat]
    exact memU_le _ 7
  obtain ⟨az, capz, rfl, -, -⟩ := ho.ints.form
  have HLN := Lib.hid (show ((memN s).map fun v : Nat => (v : Int)).length = m by rw [List.length_map, hm])
  rw [HLN.out] at ho ⊢
  have HO := Lib.hid ho
  have HB := Lib.hid hb
  have HMM := Lib.hid hm
  clear ho hb hm hLM
  obtain ⟨g, hg⟩ : ∃ g : Nat → Int, g = fun v => maxI (nth (tabW c s) (s - 2 ^ v)) (c (s - 2 ^ v) v) := ⟨_, rfl⟩
  have HGG := Lib.hid hg
  clear hg
  go_wp2
  go_loopw [6, 7, 8, 9, 10, 14] (fun lv _ _ _ _ xi wr => ∃ k : Nat, k ≤ m ∧ xi = .int .i64 k ∧ lv = .int .i64 (leastF g ((memN s).take k)) ∧ Hid (Below W.heap.size W wr)  ∧ Hid (Below w1.heap.size w1 wr)) (fun _ _ _ _ _ xi _ => m - (intOf xi).toNat)
  case atStart => exact ⟨0, by omega, rfl, rfl, HB, Lib.hid (Below.refl _ _)⟩
  case round =>
    obtain ⟨k, hk, rfl, rfl, HB1, HB2⟩ := hrel
    obtain ⟨L0, hL0⟩ : ∃ L, L = leastF g ((memN s).take k) := ⟨_, rfl⟩
    have HL0 := Lib.hid hL0
    rw [← hL0]
    clear hL0
    by_cases hlt : k < m
    · have d0 : decide ((k : Int) < (m : Int)) = true := decide_eq_true (by omega)
      have d0' : decide (k < m) = true := decide_eq_true hlt
      obtain ⟨v, -, hv7, hvb, hvn, hvt⟩ := memN_at (X := s) (k := k) (by rw [← HMM.out]; exact hlt)
      have HVT := Lib.hid (show leastF g ((memN s).take (k + 1)) = if (memN s).take k = [] then g v else if g v < leastF g ((memN s).take k) then g v else leastF g ((memN s).take k) by rw [hvt, leastF_snoc])
      obtain ⟨o1, o2, o3⟩ := bit_off hvb
      obtain ⟨b, hb⟩ : ∃ b, b = s - 2 ^ v := ⟨_, rfl⟩
      rw [← hb] at o1 o2
      have hp0 : 0 < 2 ^ v := Nat.pow_pos (by decide)
      have hbs : b < s := by omega
      obtain ⟨P, eP, hP1, hP2⟩ : ∃ P, (2 : Int) ^ v = P ∧ 1 ≤ P ∧ P ≤ 128 := ⟨_, rfl, (shl_one' v (by omega)).2.2.2.2, (shl_one' v (by omega)).2.2.2.1⟩
      have g1 : IntKind.i64.wrap (1 * P) = P := IntWalk.i64_in _ (by omega) |>.trans (by omega)
      have g2 : IntKind.i64.wrap P = P := IntWalk.i64_in _ (by omega)
      have q1 : bits .andNot .i64 (s : Int) P = (b : Int) := by
        rw [hb, ← eP]
        have := andNot_nat hs7 o3
        push_cast at this ⊢
        exact this
      obtain ⟨A, hA⟩ : ∃ A, A = nextW c b := ⟨_, rfl⟩
      obtain ⟨B, hBB⟩ : ∃ B, B = c b v := ⟨_, rfl⟩
      have hAb := HX.out b (by omega)
      have hBb := HCB.out b v (by omega) o1
      rw [← hA] at hAb
      rw [← hBB] at hBb
      obtain ⟨M, hM⟩ : ∃ M, M = g v := ⟨_, rfl⟩
      have HGV := Lib.hid (show M = maxI A B by rw [hM, HGG.out]; show maxI (nth (tabW c s) (s - 2 ^ v)) (c (s - 2 ^ v) v) = _; rw [← hb, tabW_at c hbs, hA, hBB])
      rw [← hM] at HVT
      obtain ⟨bz, offz, cpz, hv8, _, hmz, hbz, hcz⟩ := (HO.out.on HB2.out).ints.pos (by rw [HLN.out]; omega)
      rw [HLN.out] at hv8
      simp only [Value.slice.injEq] at hv8
      obtain ⟨rfl, -, rfl⟩ := hv8
      obtain ⟨bt, offt, cpt, hv9, _, hmt, hbt, hct⟩ := HI.out.pos (by rw [tabX_length]; omega)
      rw [tabX_length] at hv9
      unfold maxLen at hmz hmt
      have f1 := hcz k (by rw [HLN.out]; exact hlt)
      rw [hvn] at f1
      have f2 := hct b (by rw [tabX_length]; exact hbs)
      rw [tabX_at _ hbs, ← hA] at f2
      have hq0 : ∀ Y : Since wr, Y.val.cell? ⟨qb, 0, none⟩ = some (.func (.func f) #[] cp) := fun Y => HC.out _ (HB1.out.trans (Y.prop.mono HB1.out.size))
      have hq1 : ∀ Y : Since wr, Y.val.cell? ⟨bt, offt + b, none⟩ = some (.int .i64 A) := fun Y => ((HB1.out.trans (Y.prop.mono HB1.out.size)).cell (p := ⟨bt, offt + b, none⟩) hbt).trans f2
      have HCC : Hid (∀ Y : Since wr, Calls Try.prog f (#[.int .i64 b, .int .i64 v] ++ cp) Y.val fun e w' => e = .returned (.int .i64 B) ∧ Below Y.val.heap.size Y.val w') := fun Y => by
        rw [hBB]
        exact HR.out _ b v hv7 (by omega) o1 (HW.out.trans ((HB1.out.trans (Y.prop.mono HB1.out.size)).mono HW.out.size))
      subst hv9
      clear hb hA hBB hM hcz hct hvt hvn o3 f2
      go_wp2
      refine wp_region_since (by kernel_rfl) (by kernel_rfl) ?_
      repeat (go_big_quiet_step (exact since_call (HCC.out _)))
      refine wpQuiet_nil ?_
      intro Y
      have HBY := Lib.hid (HB1.out.trans (Y.prop.mono HB1.out.size))
      have HBZ := Lib.hid (HB2.out.trans (Y.prop.mono HB2.out.size))
      rw [show (if A < B then B else A) = M from HGV.out.symm]
      clear hq0 hq1
      by_cases hk0 : k = 0
      · subst hk0
        have HE := Lib.hid (show leastF g ((memN s).take (0 + 1)) = M by rw [HVT.out]; rfl)
        go_wp2
        go_roundw
        case rel => exact ⟨0 + 1, by omega, by go_num, by rw [HE.out], HBY, HBZ⟩
        case measure => simp [intOf]; omega
      · have e0 : ((k : Int) == 0) = false := by rw [beq_eq_false_iff_ne]; omega
        have hne : (memN s).take k ≠ [] := fun h => by
          have h1 := congrArg List.length h
          rw [List.length_take, ← HMM.out] at h1
          simp at h1
          omega
        by_cases hML : M < L0
        · have d1 : decide (M < L0) = true := decide_eq_true hML
          have HE := Lib.hid (show leastF g ((memN s).take (k + 1)) = M by rw [HVT.out, if_neg hne, ← HL0.out, if_pos hML])
          go_wp2
          go_roundw
          case rel => exact ⟨k + 1, by omega, by go_num, by rw [HE.out], HBY, HBZ⟩
          case measure => simp [intOf]; omega
        · have d1 : decide (M < L0) = false := by simp; omega
          have HE := Lib.hid (show leastF g ((memN s).take (k + 1)) = L0 by rw [HVT.out, if_neg hne, ← HL0.out, if_neg hML])
          go_wp2
          go_roundw
          case rel => exact ⟨k + 1, by omega, by go_num, by rw [HE.out], HBY, HBZ⟩
          case measure => simp [intOf]; omega
    · obtain rfl : k = m := by omega
      have d0 : decide ((k : Int) < (k : Int)) = false := by simp
      have d0' : decide (k < k) = false := by simp
      have HE := Lib.hid (show L0 = nextW c s by
        rw [HL0.out, HMM.out, List.take_length, HGG.out]
        rfl)
      go_wp2
      go_ret
      exact ⟨by rw [HE.out]; rfl, HB1.out⟩

set_option maxHeartbeats 4000000 in
set_option maxRecDepth 100000 in
theorem leastOverOrders_any (f : FuncId) (cp : Array Value) (c : Nat → Nat → Int) (n : Int) (v : Value) (lg : List Int) (w : World) (h : Ints w v lg) (hg : IsG n lg) (he : Enters f) (hr : RuleC f cp c (2 ^ lg.length) w) (hcb : ∀ b v, b + 2 ^ v < 2 ^ lg.length → b.testBit v = false → 0 ≤ c b v ∧ c b v ≤ 1000) :
    Calls Try.prog 41 #[.agg #[.int .i64 n, v], .func (.func f) #[] cp] w (SaysN (nextW c (2 ^ lg.length - 1)) w) := by
  obtain ⟨a, cap, rfl, -, -⟩ := h.form
  have HI := Lib.hid h
  obtain ⟨F, hF⟩ : ∃ F, F = 2 ^ lg.length := ⟨_, rfl⟩
  have hF7 : F ≤ 128 := by rw [hF]; exact (full_castP hg).2.1
  have hF0 : 0 < F := by rw [hF]; exact (full_castP hg).2.2.1
  have HFF := Lib.hid hF
  rw [← hF] at hcb hr ⊢
  have HX := Lib.hid (nextW_bd (c := c) (N := 1000) (F := F) (by omega) hcb)
  have HCB := Lib.hid hcb
  have HR := Lib.hid hr
  have HG := Lib.hid hg
  have HE := Lib.hid he
  have hmf : ∀ (fn : Fn) (first cap : Array Value) (w : World), (Instr.makeFunc fn first cap).run Try.prog w = .ok (.func fn first cap) w := fun _ _ _ _ => rfl
  have he1 := enters_lo
  unfold Enters at he1
  obtain ⟨w0, hw0⟩ : ∃ w0, w0 = (w.alloc (.cells #[.int .i64 n, .slice a lg.length cap] 37)).alloc (.cells #[.func (.func f) #[] cp] 54) := ⟨_, rfl⟩
  have HB0 := Lib.hid (show Below w.heap.size w w0 by rw [hw0]; exact ((Below.refl _ w).alloc (Nat.le_refl _) _).alloc (by simp) _)
  have hc0 : w0.cell? ⟨w.heap.size + 1, 0, none⟩ = some (.func (.func f) #[] cp) := by rw [hw0]; simp [go_sem]
  have hz0 : w0.heap.size = w.heap.size + 2 := by rw [hw0]; simp
  have HRT := Lib.hid (lo_rule f cp c F (w.heap.size + 1) hF7 w0 hc0 (by omega) he (fun W b v h1 h2 h3 h4 => hr W b v h1 h2 h3 (HB0.out.trans (h4.mono HB0.out.size))) HX.out hcb)
  clear h hcb hr hg hF hc0
  go_enter Try.func41, Try.ntmps41
  go_wp2_with fail
  rw [← hw0]
  refine (newTab_any _ _ (nextW c) n _ lg _ (HI.out.on HB0.out) HG.out enters_lo (fun s hs => by rw [← HFF.out] at hs; have := HX.out s hs; omega) (by rw [← HFF.out]; exact HRT.out)).mono ?_
  rintro e w1 ⟨vt, rfl, ho, hb⟩
  rw [← HFF.out] at ho
  have HO := Lib.hid ho
  have HB := Lib.hid (HB0.out.trans (hb.mono HB0.out.size))
  clear ho hb hw0
  go_wp2_with fail
  refine (ofAll_is vt _ _ HO.out.ints (by rw [tabX_length]; exact hF0) (by rw [tabX_length]; omega)).mono ?_
  rintro e w2 ⟨rfl, rfl⟩
  have HN := Lib.hid (show nth (tabX (nextW c) F) ((tabX (nextW c) F).length - 1) = nextW c (F - 1) by rw [tabX_length]; exact tabX_at _ (by omega))
  rw [HN.out]
  go_wp2
  go_ret
  exact ⟨rfl, HB.out⟩

/-- What a path's border costs. -/
def pathC (l : List Int) (b v : Nat) : Int := ((bordN l (b + 2 ^ v) l.length : Nat) : Int)

def pathR (n : Int) (l : List Int) : Int := if IsG n l then nextW (pathC l) (2 ^ l.length - 1) else -1

theorem enters_path : Enters 42 := fun args W => by rfl

theorem path_bd {n : Int} {l : List Int} (hg : IsG n l) (b v : Nat) : 0 ≤ pathC l b v ∧ pathC l b v ≤ 1000 := by
  have h1 := bord_le l (b + 2 ^ v) l.length
  have h7 : l.length ≤ 7 := by have := hg.2.1; have := hg.2.2.1; omega
  unfold pathC
  omega

set_option maxHeartbeats 2000000 in
set_option maxRecDepth 100000 in
theorem path_rule (n : Int) (a : Option Addr) (cap : Nat) (l : List Int) (q : Nat) (w : World) (hI : Ints w (.slice a l.length cap) l) (hg : IsG n l) (hb : BoxG q n (.slice a l.length cap) w) :
    RuleC 42 #[.pointer (some ⟨q, 0, none⟩)] (pathC l) (2 ^ l.length) w := by
  intro W b v hv hlt hnb hW
  show Calls Try.prog 42 #[.int .i64 b, .int .i64 v, .pointer (some ⟨q, 0, none⟩)] W _
  have h7 : l.length ≤ 7 := by have := hg.2.1; have := hg.2.2.1; omega
  have h128 := two_le _ h7
  obtain ⟨P, eP, hP1, hP2⟩ : ∃ P, (2 : Int) ^ v = P ∧ 1 ≤ P ∧ P ≤ 128 := ⟨_, rfl, (shl_one' v (by omega)).2.2.2.2, (shl_one' v (by omega)).2.2.2.1⟩
  have g1 : IntKind.i64.wrap (1 * P) = P := IntWalk.i64_in _ (by omega) |>.trans (by omega)
  have g2 : IntKind.i64.wrap P = P := IntWalk.i64_in _ (by omega)
  obtain ⟨S, hS⟩ : ∃ S, S = b + 2 ^ v := ⟨_, rfl⟩
  have q1 : bits .or .i64 (b : Int) P = (S : Int) := by
    have h0 : bitAt (b : Int) v = 0 := by
      rcases bitAt_two (b : Int) v with h | h
      · exact h
      · rw [bitAt_nat, hnb] at h; cases h
    have hp0 : 0 < 2 ^ v := Nat.pow_pos (by decide)
    have := (set_small (b : Int) v (by omega) (by omega) hv h0).1
    rw [← eP, this, hS]
    push_cast
    rfl
  have HX : Hid (∀ Y : Since W, BoxG q n (.slice a l.length cap) Y.val ∧ Ints Y.val (.slice a l.length cap) l) := fun Y => by
    have h1 := hW.trans (Y.prop.mono hW.size)
    exact ⟨hb.keep (below_grown h1) (by simp), hI.on h1⟩
  have hx0 : ∀ Y : Since W, Y.val.cell? ⟨q, 0, none⟩ = some (.int .i64 n) := fun Y => (HX.out Y).1.1
  have hx1 : ∀ Y : Since W, Y.val.cell? ⟨q, 1, none⟩ = some (.slice a l.length cap) := fun Y => (HX.out Y).1.2.1
  obtain ⟨B, hB⟩ : ∃ B, B = ((bordN l S l.length : Nat) : Int) := ⟨_, rfl⟩
  have HC : Hid (∀ Y : Since W, Calls Try.prog 43 #[.agg #[.int .i64 n, .slice a l.length cap], .int .i64 S] Y.val fun e w' => e = .returned (.int .i64 B) ∧ Below Y.val.heap.size Y.val w') := fun Y => by
    rw [hB]; exact border_is n _ l S _ (HX.out Y).2 hg (by rw [hS]; exact hlt)
  have HN := Lib.hid (show pathC l b v = B by rw [hB, hS]; rfl)
  clear hI hg hb hlt hnb hB hS
  rw [HN.out]
  go_enter Try.func42, Try.ntmps42
  go_wp2
  refine wp_region_since (by kernel_rfl) (by kernel_rfl) ?_
  repeat (go_big_quiet_step (with_reducible exact since_call (HC.out _)))
  refine wpQuiet_nil ?_
  intro Y
  have HY := Lib.hid Y.prop
  clear hx0 hx1
  go_wp2
  go_ret
  exact ⟨rfl, HY.out⟩

set_option maxHeartbeats 2000000 in
set_option maxRecDepth 100000 in
theorem implPath (n : Int) (v : Value) (l : List Int) (w : World) (h : Ints w v l) :
    Calls Try.prog 20 #[.agg #[.int .i64 n, v]] w (SaysN (pathR n l) w) := by
  obtain ⟨a, cap, rfl, -, -⟩ := h.form
  have HI := Lib.hid h
  have hmf : ∀ (fn : Fn) (first cap : Array Value) (w : World), (Instr.makeFunc fn first cap).run Try.prog w = .ok (.func fn first cap) w := fun _ _ _ _ => rfl
  obtain ⟨w0, hw0⟩ : ∃ w0, w0 = w.alloc (.cells #[.int .i64 n, .slice a l.length cap] 37) := ⟨_, rfl⟩
  have HB0 := Lib.hid (show Below w.heap.size w w0 by rw [hw0]; exact (Below.refl _ w).alloc (Nat.le_refl _) _)
  have HX0 := Lib.hid (show BoxG w.heap.size n (.slice a l.length cap) w0 by rw [hw0]; exact BoxG.new w 37 n (.slice a l.length cap) ⟨_, _, _, rfl⟩)
  clear h
  go_enter Try.func20, Try.ntmps20
  go_wp2_with fail
  rw [← hw0]
  refine (implIsG_any n _ l _ (HI.out.on HB0.out)).mono ?_
  rintro e w1 ⟨r, rfl, hr, hb⟩
  have HB1 := Lib.hid (HB0.out.trans (hb.mono HB0.out.size))
  have HX1 := Lib.hid (HX0.out.keep (below_grown hb) (by simp))
  obtain ⟨c0, c1, cz⟩ := HX1.out
  clear hb hw0
  cases r with
  | false =>
    have HN := Lib.hid (show pathR n l = -1 by unfold pathR; rw [if_neg (fun h => absurd (hr.2 h) (by decide))])
    clear hr
    go_wp2
    go_ret
    exact ⟨by rw [HN.out]; rfl, HB1.out⟩
  | true =>
    have HG := Lib.hid (hr.1 rfl)
    clear hr
    have HN := Lib.hid (show nextW (pathC l) (2 ^ l.length - 1) = pathR n l by unfold pathR; rw [if_pos HG.out])
    go_wp2_with fail
    refine (leastOverOrders_any _ _ (pathC l) n _ l _ (HI.out.on HB1.out) HG.out enters_path (path_rule n a cap l w.heap.size w1 (HI.out.on HB1.out) HG.out HX1.out) (fun b v _ _ => path_bd HG.out b v)).mono ?_
    rintro e w2 ⟨rfl, hb⟩
    rw [HN.out]
    have HB2 := Lib.hid (HB1.out.trans (hb.mono HB1.out.size))
    clear hb
    go_wp2
    go_ret
    exact ⟨rfl, HB2.out⟩

end Go.Proofs.Ytpifgmmmmhenmac
