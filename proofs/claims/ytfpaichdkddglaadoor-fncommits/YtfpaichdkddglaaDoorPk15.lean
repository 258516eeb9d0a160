/- Texts in one: Cl1, Cl2. -/
import Derived.Test.YtfpaichdkddglaaDoorPk8
import Derived.Test.YtfpaichdkddglaaDoorPk9
import Derived.BigQuiet
/- Chapter 8: clashes, plain facts alone. -/
namespace Go.Proofs.YtfpaichdkddglaaDoor.Cl
open Go.RowKit Go.Proofs.YtfpaichdkddglaaDoor.Mem Go.Proofs.YtfpaichdkddglaaDoor.Laws Go.Proofs.YtfpaichdkddglaaDoor.Sha Go.Proofs.YtfpaichdkddglaaDoor.Tr
set_option linter.unusedVariables false
set_option linter.unusedSimpArgs false

/-- what a leaf's hash, a node's, is the digest of -/
def leafT (s : ByteArray) : ByteArray := Plain.txt (0 :: sb s)
def nodeT (a b : ByteArray) : ByteArray := Plain.txt (1 :: (sb a ++ sb b))
theorem byt0 (s : ByteArray) : Byt (0 :: sb s) := by
  intro x hx
  rcases List.mem_cons.1 hx with rfl | hx
  · omega
  · exact sb_byt s x hx
theorem byt1 (a b : ByteArray) : Byt (1 :: (sb a ++ sb b)) := by
  intro x hx
  rcases List.mem_cons.1 hx with rfl | hx
  · omega
  · exact ((sb_byt a).app (sb_byt b)) x hx
theorem sb_leafT (s : ByteArray) : sb (leafT s) = 0 :: sb s := sb_txt (byt0 s)
theorem sb_nodeT (a b : ByteArray) : sb (nodeT a b) = 1 :: (sb a ++ sb b) := sb_txt (byt1 a b)
theorem sb_inj {a b : ByteArray} (h : sb a = sb b) : a = b := by
  have h1 : a.data.toList = b.data.toList := by
    unfold sb at h
    refine List.map_inj_right (f := fun x : UInt8 => (x.toNat : Int)) ?_ |>.1 h
    intro x y hxy
    exact UInt8.toNat_inj.1 (by omega)
  cases a
  cases b
  simp only at h1
  rw [Array.ext' h1]
theorem leafT_inj {s t : ByteArray} (h : leafT s = leafT t) : s = t := by
  have := congrArg sb h
  rw [sb_leafT, sb_leafT] at this
  exact sb_inj (List.cons.inj this).2
theorem nodeT_inj {a b x y : ByteArray} (ha : a.size = x.size) (h : nodeT a b = nodeT x y) : a = x ∧ b = y := by
  have := congrArg sb h
  rw [sb_nodeT, sb_nodeT] at this
  have h2 := List.append_inj (List.cons.inj this).2 (by rw [sb_len, sb_len, ha])
  exact ⟨sb_inj h2.1, sb_inj h2.2⟩
/-- the digest of a text -/
def dg (s : ByteArray) : ByteArray := Plain.txt (digest (sb s))
theorem dg_leafT (s : ByteArray) : dg (leafT s) = leafH s := by unfold dg leafH; rw [sb_leafT]
theorem dg_nodeT (a b : ByteArray) : dg (nodeT a b) = nodeH a b := by unfold dg nodeH; rw [sb_nodeT]
theorem dg_size (s : ByteArray) : (dg s).size = 32 := by unfold dg; rw [txt_size, digest_len]

/-- two unlike texts of unlike lists as long (f: more than they have) -/
def clashF : Nat → List ByteArray → List ByteArray → ByteArray × ByteArray
  | 0, _, _ => (⟨#[]⟩, ⟨#[]⟩)
  | f + 1, l, m =>
    if 2 ≤ l.length then
      (if root (l.take (half l.length)) = root (m.take (half l.length)) ∧ root (l.drop (half l.length)) = root (m.drop (half l.length)) then
        (if l.take (half l.length) = m.take (half l.length) then clashF f (l.drop (half l.length)) (m.drop (half l.length))
         else clashF f (l.take (half l.length)) (m.take (half l.length)))
       else (nodeT (root (l.take (half l.length))) (root (l.drop (half l.length))), nodeT (root (m.take (half l.length))) (root (m.drop (half l.length)))))
    else (leafT (l.headD ⟨#[]⟩), leafT (m.headD ⟨#[]⟩))
theorem clashF_any : ∀ (f g : Nat) (l m : List ByteArray), l.length < f → l.length < g → clashF f l m = clashF g l m := by
  intro f
  induction f with
  | zero => intro g l m hf; omega
  | succ f ih =>
    intro g l m hf hg
    cases g with
    | zero => omega
    | succ g =>
      by_cases h : 2 ≤ l.length
      · have h1 := take_lt h
        have h2 := drop_lt h
        rw [clashF, clashF, if_pos h, if_pos h, ih g (l.drop (half l.length)) (m.drop (half l.length)) (by omega) (by omega), ih g (l.take (half l.length)) (m.take (half l.length)) (by omega) (by omega)]
      · rw [clashF, clashF, if_neg h, if_neg h]
def clash (l m : List ByteArray) : ByteArray × ByteArray := clashF (l.length + 1) l m
theorem clash_if (l m : List ByteArray) : clash l m = if 2 ≤ l.length then
      (if root (l.take (half l.length)) = root (m.take (half l.length)) ∧ root (l.drop (half l.length)) = root (m.drop (half l.length)) then
        (if l.take (half l.length) = m.take (half l.length) then clash (l.drop (half l.length)) (m.drop (half l.length))
         else clash (l.take (half l.length)) (m.take (half l.length)))
       else (nodeT (root (l.take (half l.length))) (root (l.drop (half l.length))), nodeT (root (m.take (half l.length))) (root (m.drop (half l.length)))))
    else (leafT (l.headD ⟨#[]⟩), leafT (m.headD ⟨#[]⟩)) := by
  unfold clash
  by_cases h : 2 ≤ l.length
  · have h1 := take_lt h
    have h2 := drop_lt h
    rw [clashF, if_pos h, if_pos h, clashF_any l.length ((l.drop (half l.length)).length + 1) (l.drop (half l.length)) (m.drop (half l.length)) (by omega) (by omega), clashF_any l.length ((l.take (half l.length)).length + 1) (l.take (half l.length)) (m.take (half l.length)) (by omega) (by omega)]
  · rw [clashF, if_neg h, if_neg h]
/-- of unlike lists as long they are unlike, and of one digest just if the roots are the same -/
theorem clash_ok (l : List ByteArray) : ∀ (m : List ByteArray), l.length = m.length → l ≠ m → (clash l m).1 ≠ (clash l m).2 ∧ (dg (clash l m).1 = dg (clash l m).2 ↔ root l = root m) := by
  refine lenRec (P := fun l => ∀ (m : List ByteArray), l.length = m.length → l ≠ m → (clash l m).1 ≠ (clash l m).2 ∧ (dg (clash l m).1 = dg (clash l m).2 ↔ root l = root m)) ?_ l
  intro l ih m hlm hne
  rw [clash_if]
  by_cases h : 2 ≤ l.length
  · have hk := half_ok h
    have hp := half_pos h
    have hm : 2 ≤ m.length := by omega
    have lt : (l.take (half l.length)).length = (m.take (half l.length)).length := by rw [List.length_take, List.length_take, hlm]
    have ld : (l.drop (half l.length)).length = (m.drop (half l.length)).length := by rw [List.length_drop, List.length_drop, hlm]
    have rm : root m = nodeH (root (m.take (half l.length))) (root (m.drop (half l.length))) := by rw [root_more hm, ← hlm]
    rw [if_pos h]
    by_cases hr : root (l.take (half l.length)) = root (m.take (half l.length)) ∧ root (l.drop (half l.length)) = root (m.drop (half l.length))
    · rw [if_pos hr]
      have hroot : root l = root m := by rw [root_more h, rm, hr.1, hr.2]
      by_cases hs : l.take (half l.length) = m.take (half l.length)
      · rw [if_pos hs]
        have hd : l.drop (half l.length) ≠ m.drop (half l.length) := by
          intro e
          apply hne
          rw [← List.take_append_drop (half l.length) l, hs, e, List.take_append_drop]
        obtain ⟨a, b⟩ := ih (l.drop (half l.length)) (drop_lt h) (m.drop (half l.length)) ld hd
        exact ⟨a, fun _ => hroot, fun _ => b.2 hr.2⟩
      · rw [if_neg hs]
        obtain ⟨a, b⟩ := ih (l.take (half l.length)) (take_lt h) (m.take (half l.length)) lt hs
        exact ⟨a, fun _ => hroot, fun _ => b.2 hr.1⟩
    · rw [if_neg hr]
      refine ⟨fun e => hr (nodeT_inj (by rw [root_size, root_size]) e), ?_⟩
      show dg (nodeT _ _) = dg (nodeT _ _) ↔ _
      rw [dg_nodeT, dg_nodeT, root_more h, rm]
  · rw [if_neg h]
    match l, m, hlm, hne, h with
    | [], [], _, hne, _ => exact absurd rfl hne
    | [s], [t], _, hne, _ =>
      have hst : s ≠ t := fun e => hne (by rw [e])
      refine ⟨fun e => hst (leafT_inj e), ?_⟩
      show dg (leafT s) = dg (leafT t) ↔ root [s] = root [t]
      rw [dg_leafT, dg_leafT, root_one, root_one]
    | _ :: _ :: _, _, _, _, h => simp at h

end Go.Proofs.YtfpaichdkddglaaDoor.Cl

/- Chapter 8: lists that are the same; what a leaf's and a node's hash is the digest of (the specification's side). -/
namespace Go.Proofs.YtfpaichdkddglaaDoor.Cl
open Go.RowKit Go.Proofs.YtfpaichdkddglaaDoor.Mem Go.Proofs.YtfpaichdkddglaaDoor.Laws Go.Proofs.YtfpaichdkddglaaDoor.Bytes Go.Proofs.YtfpaichdkddglaaDoor.Sha Go.Proofs.YtfpaichdkddglaaDoor.Tr
set_option linter.unusedVariables false
set_option linter.unusedSimpArgs false

theorem beq_yes {a b : ByteArray} (h : a = b) : (a.toList == b.toList) = true := by rw [h]; simp
theorem beq_no {a b : ByteArray} (h : a ≠ b) : (a.toList == b.toList) = false := by
  rw [beq_eq_false_iff_ne, ByteArray.toList_eq, ByteArray.toList_eq]
  intro e
  apply h
  cases a
  cases b
  simp only at e
  rw [Array.ext' e]
theorem eq6_iff (a b : ByteArray) : eq6 a b = true ↔ a = b := by
  unfold eq6
  refine ⟨fun h => ?_, beq_yes⟩
  by_cases e : a = b
  · exact e
  · rw [beq_no e] at h; cases h

theorem Sl.form {w : World} {v : Value} {cs : List Value} (h : Sl w v cs) : ∃ (ao : Option Addr) (cap : Nat), v = .slice ao cs.length cap ∧ cs.length ≤ cap := by
  obtain ⟨ao, cap, rfl, hc, _⟩ := h
  exact ⟨ao, cap, rfl, hc⟩

set_option maxRecDepth 1000000 in
set_option maxHeartbeats 1000000 in
/-- whether two lists are the same -/
theorem same_law (w : World) (v1 v2 : Value) (l m : List ByteArray) (t : Bool) (ht : t = true ↔ l = m) (h1 : Sl w v1 (ss l)) (h2 : Sl w v2 (ss m)) (hl : l.length ≤ 1000000000000) (hm : m.length ≤ 1000000000000) :
    Calls Tryd.prog 12 #[v1, v2] w fun e w' => e = .returned (.bool t) ∧ (∀ B, Below B w w') ∧ w'.heap.size = w.heap.size := by
  obtain ⟨ao, cap, rfl, hc1, _, hr1⟩ := h1
  obtain ⟨bo, cap2, rfl, hc2, _, hr2⟩ := h2
  rw [ss_len] at hr1 hr2 hc1 hc2
  rw [ss_len, ss_len]
  have HT : Hid (t = true ↔ l = m) := ht
  clear ht
  by_cases hlm : l.length = m.length
  · have dn : ((l.length : Int) == (m.length : Int)) = true := by rw [beq_iff_eq]; omega
    have HLM : Hid (l.length = m.length) := hlm
    have hlm1 : l.length ≤ m.length := by omega
    have hlm2 : m.length ≤ l.length := by omega
    clear hlm
    go_enter Tryd.func12, Tryd.ntmps12
    go_wp2
    go_loopw [5] (fun i wr => ∃ k n : Nat, k ≤ l.length ∧ i = .int .i64 k ∧ Hid (l.take k = m.take k) ∧ wr = w.drewN n) (fun i _ => l.length - (intOf i).toNat)
    case atStart => exact ⟨0, 0, Nat.zero_le _, rfl, rfl, rfl⟩
    case round =>
      obtain ⟨k, n, hk, rfl, HK, rfl⟩ := hrel
      by_cases hlt : k < l.length
      · obtain ⟨b, off, s, rfl, hx0, hcell⟩ := Sl.strAt hr1 rfl hlt
        obtain ⟨b2, off2, s2, rfl, hy0, hcell2⟩ := Sl.strAt hr2 rfl (show k < m.length by omega)
        have hlt' : (k : Int) < (m.length : Int) := by omega
        by_cases hst : s = s2
        · subst hst
          have HN : Hid (l.take (k + 1) = m.take (k + 1)) := by
            show _ = _
            rw [List.take_add_one, List.take_add_one, HK.out, hx0, hy0]
          clear hx0 hy0 hr1 hr2 HK
          go_wp2
          go_quiet (fail)
          go_wp2
          go_roundw
          case rel => exact ⟨k + 1, n + nq, by omega, by go_num, HN, rfl⟩
          case measure => simp [intOf]; omega
        · have HF : Hid (t = false) := by
            show _ = _
            cases t with
            | false => rfl
            | true =>
              have e := HT.out.1 rfl
              subst e
              rw [hx0] at hy0
              exact absurd (Option.some.inj hy0) hst
          have dq := beq_no hst
          clear hx0 hy0 hr1 hr2 HK hst
          go_wp2
          go_quiet (fail)
          go_wp2
          go_ret
          exact ⟨by rw [HF.out]; rfl, fun B => below_drewN (below_drewN (Below.refl _ _) _) _, rfl⟩
      · have HF : Hid (t = true) := by
          show _ = _
          refine HT.out.2 ?_
          have h := HK.out
          rwa [List.take_of_length_le (by omega), List.take_of_length_le (by omega)] at h
        clear hr1 hr2 HK
        go_wp2
        go_ret
        exact ⟨by rw [HF.out]; rfl, fun B => below_drewN (Below.refl _ _) n, rfl⟩
  · have HF : Hid (t = false) := by
      show _ = _
      cases t with
      | false => rfl
      | true => exact absurd (congrArg List.length (HT.out.1 rfl)) hlm
    have dn : ((l.length : Int) == (m.length : Int)) = false := by rw [beq_eq_false_iff_ne]; omega
    clear hr1 hr2 hlm
    go_enter Tryd.func12, Tryd.ntmps12
    go_wp2
    go_ret
    exact ⟨by rw [HF.out]; rfl, fun B => Below.refl _ _, rfl⟩

end Go.Proofs.YtfpaichdkddglaaDoor.Cl
