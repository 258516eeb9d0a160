/- Texts in one: ModK, ModP, ModQ, ModS. -/
import Derived.Test.YtljlcelbhlkmcabGreatDoorPk5
import Derived.Test.YtljlcelbhlkmcabGreatDoorPk23
import Derived.RangeFuncNested
import Derived.RangeFuncBound
import Derived.RangeFuncCalls
import Derived.RangeFuncLeaves
import Derived.Shelf.Abstract
import Derived.Shelf.RegionOpen
import Derived.WalkKit
import Derived.OwnWalkIn
import Derived.TacticsInMore
import Derived.LoopNIn
import Derived.LoopIn
/- Chapter 4: what a range over an iterator keeps; paths told by their parts. -/
namespace Go.Proofs.YtljlcelbhlkmcabGreatDoor.Mod
open Go.RowKit Go.Shelf Go.Proofs.YtljlcelbhlkmcabGreatDoor.Mem Go.Proofs.YtljlcelbhlkmcabGreatDoor.Laws Go.Proofs.YtljlcelbhlkmcabGreatDoor.Bytes Go.Proofs.YtljlcelbhlkmcabGreatDoor.Sha Go.Proofs.YtljlcelbhlkmcabGreatDoor.Ver
set_option linter.unusedVariables false
set_option linter.unusedSimpArgs false
attribute [local go_sem] Oper.semAt_some

/-- a text that is no longer than a path may be -/
abbrev T60 := { t : ByteArray // t.size ≤ 60 }
/-- what a round keeps for the iterator: the box of its text, and its walk -/
def Kp (b : Nat) (A B : World) : Prop := (∀ t v, Boxed A b t v → Boxed B b t v) ∧ KeepsWalks A B
theorem Kp_t {b : Nat} {A B C : World} (h : Kp b A B) (k : Kp b B C) : Kp b A C := ⟨fun t v hv => k.1 t v (h.1 t v hv), h.2.trans k.2⟩
theorem Kp_b {b : Nat} {w : World} (W : World) (l : Nat) (o o' : Obj) (hl : w.heap.size ≤ l) (h : W.heap[l]? = some o) (h1 : o.isCells = false) (h2 : o.isWalk = false) : Kp b W (W.putObj l o') := by
  refine ⟨fun t v hv => ?_, walksK_b (w := w) W l o o' hl h h1 h2⟩
  unfold Boxed at hv ⊢
  by_cases e : b = l
  · subst e
    rw [h] at hv
    cases hv
    cases h1
  · rw [World.putObj_heap_other e]
    exact hv
theorem Boxed.same {b t : Nat} {v : Value} {A B : World} (hv : Boxed A b t v) (h : Below A.heap.size A B) : Boxed B b t v := (h.block b hv.lt).trans hv
theorem Kp_below {b : Nat} {A B : World} (h : Below A.heap.size A B) : Kp b A B :=
  ⟨fun t v hv => Boxed.same hv h, ⟨h.size, fun k o hk _ => (h.block k (Array.getElem?_eq_some_iff.1 hk).1).trans hk⟩⟩
theorem Kp_set {b g : Nat} (A : World) (v : Value) (hne : b ≠ g) : Kp b A (A.setCell ⟨g, 0, none⟩ v) := ⟨fun t u hu => Boxed.other hu hne v, KeepsWalks.setCell _ _ _⟩
theorem others_below {A B : World} (h : Below A.heap.size A B) : KeepsOthers A B := ⟨h.size, fun k o hk _ => (h.block k (Array.getElem?_eq_some_iff.1 hk).1).trans hk⟩

def bad4 (pre : List T60) : Prop := 6 < pre.length ∨ ∃ t ∈ pre, part4 (sb t.1) = false
theorem bad4_path {s : ByteArray} {pre : List T60} (h : bad4 pre) (hp : pre.map (·.1) <+: splitT 47 s) : path4 (sb s) = false := by
  have hT := splitT_sb 47 s
  have hl : (split 47 (sb s)).length = (splitT 47 s).length := by rw [← hT, List.length_map]
  have hpl := hp.length_le
  rw [List.length_map] at hpl
  unfold path4
  rcases h with h | ⟨t, ht, hb⟩
  · have : ¬ (split 47 (sb s)).length ≤ 6 := by omega
    simp [this]
  · have : (split 47 (sb s)).all part4 = false := by
      rw [List.all_eq_false]
      refine ⟨sb t.1, ?_, by simp [hb]⟩
      rw [← hT]
      exact List.mem_map.2 ⟨t.1, hp.subset (List.mem_map.2 ⟨t, ht, rfl⟩), rfl⟩
    simp [this]
theorem good4_path {s : ByteArray} {xs : List T60} (hs : s.size ≤ 60) (h : xs.map (·.1) = splitT 47 s) (h6 : xs.length ≤ 6) (hg : ∀ t ∈ xs, part4 (sb t.1) = true) : path4 (sb s) = true := by
  have hT := splitT_sb 47 s
  have hl : (split 47 (sb s)).length = xs.length := by rw [← hT, List.length_map, ← h, List.length_map]
  unfold path4
  have h1 : (split 47 (sb s)).all part4 = true := by
    rw [← hT, ← h, List.all_eq_true]
    intro x hx
    simp only [List.map_map, List.mem_map] at hx
    obtain ⟨t, ht, rfl⟩ := hx
    exact hg t ht
  rw [h1, hl, sb_len]
  simp [h6, hs]

end Go.Proofs.YtljlcelbhlkmcabGreatDoor.Mod

/- Chapter 4, the landed code: the iterator over the parts of a path. -/
namespace Go.Proofs.YtljlcelbhlkmcabGreatDoor.Mod
open Go.RowKit Go.Shelf Go.Proofs.YtljlcelbhlkmcabGreatDoor.Mem Go.Proofs.YtljlcelbhlkmcabGreatDoor.Laws Go.Proofs.YtljlcelbhlkmcabGreatDoor.Bytes Go.Proofs.YtljlcelbhlkmcabGreatDoor.Sha Go.Proofs.YtljlcelbhlkmcabGreatDoor.Ver
set_option linter.unusedVariables false
set_option linter.unusedSimpArgs false
attribute [local go_sem] Oper.semAt_some

theorem grown_below {A B : World} (h : Below A.heap.size A B) : A.grownBy B none := ⟨h.os, h.tape, h.output, h.size, fun j hj _ => h.block j hj⟩

theorem back_map (Q : List T60) : (Q.map (fun t => sb t.1)).map Plain.txt = Q.map (·.1) := by
  rw [List.map_map]
  apply List.map_congr_left
  intro t _
  exact txt_sbv t.1
theorem pre_of {s : ByteArray} {Q : List T60} {R : List (List Int)} (h : Q.map (fun t => sb t.1) ++ R = split 47 (sb s)) : Q.map (·.1) <+: splitT 47 s := by
  unfold splitT
  rw [← h, List.map_append, back_map]
  exact List.prefix_append _ _
theorem all_of {s : ByteArray} {Q : List T60} (h : Q.map (fun t => sb t.1) = split 47 (sb s)) : Q.map (·.1) = splitT 47 s := by
  unfold splitT
  rw [← h, back_map]
theorem sb_ext (s : ByteArray) (f k : Nat) : sb (s.extract f k) = ((sb s).drop f).take (k - f) := by
  rw [ext_txt]
  exact sb_txtv (fun x hx => sb_byt s x (List.mem_of_mem_drop (List.mem_of_mem_take hx)))
theorem cut_no {R : ByteArray} (h : (sb R).findIdx? (fun c => c == 47) = none) : split 47 (sb R) = [sb R] := by
  unfold split
  rw [splitL_none 47 _ _ (fun x hx e => by have := List.findIdx?_eq_none_iff.1 h x hx; simp [e] at this)]
  simp
theorem cut_yes {R : ByteArray} {i : Nat} (h : (sb R).findIdx? (fun c => c == 47) = some i) : split 47 (sb R) = sb (R.extract 0 i) :: split 47 (sb (R.extract (i + 1) R.size)) := by
  obtain ⟨hi, h1, h2⟩ := List.findIdx?_eq_some_iff_getElem.1 h
  have h1' : (sb R)[i] = 47 := by simpa using h1
  have e : sb R = (sb R).take i ++ [47] ++ (sb R).drop (i + 1) := by
    rw [← h1', List.append_assoc]
    simp
  have e1 : sb (R.extract 0 i) = (sb R).take i := by rw [sb_ext]; simp
  have e2 : sb (R.extract (i + 1) R.size) = (sb R).drop (i + 1) := by
    rw [sb_ext, List.take_of_length_le (by rw [List.length_drop, sb_len]; omega)]
  rw [e1, e2]
  unfold split
  conv => lhs; rw [e]
  rw [splitL_app, splitL_none 47 ((sb R).take i) [] ?_]
  · simp
  · intro x hx
    obtain ⟨j, hj, rfl⟩ := List.getElem_of_mem hx
    rw [List.getElem_take]
    have hj' : j < i := by rw [List.length_take] at hj; omega
    have := h2 j hj'
    simpa using this

set_option maxRecDepth 1000000 in
set_option maxHeartbeats 4000000 in
theorem parts_stops (n : Nat) (hn : 1 ≤ n) (w : World) (b : Nat) (s : ByteArray) (hs : s.size ≤ 60) (hb : Boxed w b 9 (.string s)) :
    SeqStopsK Fence.wide n Tryz.prog 111 #[.pointer (some ⟨b, 0, none⟩)] (fun t : T60 => #[Value.string t.1]) (Kp b) (fun xs => xs.map (·.1) = splitT 47 s) (fun pre => pre.map (·.1) <+: splitT 47 s) 61 w := fun l J Jx W hW hJ hJx hY h0 => by
  have hbW : Boxed W b 9 (.string s) := Boxed.same hb hW
  have hJb : ∀ (pre : List T60) (V V' : World), J pre V → Below V.heap.size V V' → J pre V' := fun pre V V' hj hB => hJ pre V V' none hj (grown_below hB) (fun r e => by cases e)
  have k0 := hbW.cell
  refine callsIn_of_wp Tryz.func111 rfl trivial ?_ rfl
  simp only [Tryz.ntmps111, List.size_toArray, List.length_cons, List.length_nil, Nat.reduceAdd, Nat.reduceSub, Array.replicate_succ, Array.replicate_zero, List.push_toArray, List.append_toArray, List.nil_append, List.cons_append]
  gi_wp2
  gi_loopw [3, 4] (fun fr fm wr => ∃ (R : ByteArray) (m : Bool) (Q : List T60), fr = .string R ∧ fm = .bool m ∧ Q.length + R.size ≤ s.size + 1 ∧ (m = true → Q.length + R.size ≤ s.size) ∧ Hid (Q.map (fun t => sb t.1) ++ (if m = true then split 47 (sb R) else []) = split 47 (sb s)) ∧ J Q wr) (fun fr fm _ => match fr, fm with | .string R, .bool true => R.size + 1 | _, _ => 0)
  case atStart => exact ⟨s, true, [], rfl, rfl, by simp, by simp, by simp [Hid], h0⟩
  case round =>
    obtain ⟨R, m, Q, rfl, rfl, hl1, hl2, HI, hj⟩ := hrel
    cases m
    · have HN : Hid (Q.map (fun t => sb t.1) = split 47 (sb s)) := by
        show _ = _
        have := HI.out
        simpa using this
      clear HI
      gi_wp2
      go_end0
      exact ⟨⟨_, rfl⟩, .inl ⟨Q, all_of HN.out, hj⟩⟩
    · have hE := HI.out
      rw [if_pos rfl] at hE
      have hl := hl2 rfl
      have q : ∀ V, _ := fun V => cut_impl V R (by omega)
      clear HI hl1 hl2
      cases hd : (sb R).findIdx? (fun c => c == 47) with
      | none =>
        have e1 : cutS R = (R, ⟨#[]⟩) := by unfold cutS; rw [hd]
        have e2 : decide (0 ≤ slash R) = false := by unfold slash; rw [hd]; rfl
        simp only [e1, e2] at q
        have hxs : R.size ≤ 60 := by omega
        rw [cut_no hd] at hE
        have HN : Hid ((Q ++ [(⟨R, hxs⟩ : T60)]).map (fun t => sb t.1) = split 47 (sb s)) := by
          show _ = _
          rw [← hE, List.map_append]
          rfl
        clear hE hd e1 e2
        gi_wp2_with fail
        refine ⟨trivial, ?_⟩
        refine (callsIn_wide.2 (q _)).mono ?_
        rintro e w2 ⟨rfl, b2⟩
        have hj2 := hJb Q _ _ hj b2
        obtain ⟨fn, tmps, assign, body, hy, hR⟩ := hY Q ⟨R, hxs⟩ _ hj2 (by omega)
        dsimp only at hy
        clear q b2 hj hj2
        gi_wp2
        refine hR.mono ?_
        rintro e W3 (⟨rfl, hJ3, hk3⟩ | ⟨rfl, hJx3⟩)
        · gi_wp2
          go_roundw
          case rel => exact ⟨⟨#[]⟩, false, Q ++ [⟨R, hxs⟩], rfl, rfl, (by have z : (⟨#[]⟩ : ByteArray).size = 0 := rfl; rw [z, List.length_append]; simp; omega), fun h => (by cases h), (by show _ = _; rw [if_neg (by simp), List.append_nil]; exact HN.out), hJ3⟩
          case measure => simp
        · gi_wp2
          refine bodyPost_ret (results_none rfl _ _ _) rfl ?_
          exact ⟨⟨_, rfl⟩, .inr ⟨Q ++ [⟨R, hxs⟩], pre_of (R := []) (by rw [List.append_nil]; exact HN.out), hJx3⟩⟩
      | some i =>
        have hi := slash_some hd
        have e1 : cutS R = (R.extract 0 i, R.extract (i + 1) R.size) := by unfold cutS; rw [hd]
        have e2 : decide (0 ≤ slash R) = true := by unfold slash; rw [hd]; simp
        simp only [e1, e2] at q
        have z1 : (R.extract 0 i).size = i := by simp; omega
        have z2 : (R.extract (i + 1) R.size).size = R.size - (i + 1) := by simp
        rw [cut_yes hd] at hE
        obtain ⟨x, hx⟩ : ∃ x, R.extract 0 i = x := ⟨_, rfl⟩
        obtain ⟨y, hyy⟩ : ∃ x, R.extract (i + 1) R.size = x := ⟨_, rfl⟩
        rw [hx, hyy] at hE
        rw [hx] at z1
        rw [hyy] at z2
        simp only [hx, hyy] at q
        have hxs : x.size ≤ 60 := by omega
        have hys : y.size < R.size := by omega
        have hlq : Q.length + 1 + y.size ≤ s.size := by omega
        have HN : Hid ((Q ++ [(⟨x, hxs⟩ : T60)]).map (fun t => sb t.1) ++ split 47 (sb y) = split 47 (sb s)) := by
          show _ = _
          rw [← hE, List.map_append]
          simp
        clear hE hd e1 e2 hx hyy z1 z2
        gi_wp2_with fail
        refine ⟨trivial, ?_⟩
        refine (callsIn_wide.2 (q _)).mono ?_
        rintro e w2 ⟨rfl, b2⟩
        have hj2 := hJb Q _ _ hj b2
        obtain ⟨fn, tmps, assign, body, hy, hR⟩ := hY Q ⟨x, hxs⟩ _ hj2 (by omega)
        dsimp only at hy
        clear q b2 hj hj2
        gi_wp2
        refine hR.mono ?_
        rintro e W3 (⟨rfl, hJ3, hk3⟩ | ⟨rfl, hJx3⟩)
        · gi_wp2
          go_roundw
          case rel => exact ⟨y, true, Q ++ [⟨x, hxs⟩], rfl, rfl, by simp; omega, fun _ => by simp; omega, by show _ = _; rw [if_pos rfl]; exact HN.out, hJ3⟩
          case measure => simp; omega
        · gi_wp2
          refine bodyPost_ret (results_none rfl _ _ _) rfl ?_
          exact ⟨⟨_, rfl⟩, .inr ⟨Q ++ [⟨x, hxs⟩], pre_of HN.out, hJx3⟩⟩

set_option maxRecDepth 1000000 in
theorem parts_in (n : Nat) (s : ByteArray) (W : World) : CallsIn Fence.wide n Tryz.prog 90 #[.string s] W fun e w' => e = .returned (.func (.func 111) #[] #[.pointer (some ⟨W.heap.size, 0, none⟩)]) ∧ w' = W.alloc (.cells #[.string s] 9) := by
  refine callsIn_wide.2 ?_
  go_enter Tryz.func90, Tryz.ntmps90
  go_wp2
  go_ret
  exact ⟨rfl, rfl⟩

end Go.Proofs.YtljlcelbhlkmcabGreatDoor.Mod

/- Chapter 4, the landed code: is a text a path, and what is its last part. -/
namespace Go.Proofs.YtljlcelbhlkmcabGreatDoor.Mod
open Go.RowKit Go.Shelf Go.Proofs.YtljlcelbhlkmcabGreatDoor.Mem Go.Proofs.YtljlcelbhlkmcabGreatDoor.Laws Go.Proofs.YtljlcelbhlkmcabGreatDoor.Bytes Go.Proofs.YtljlcelbhlkmcabGreatDoor.Sha Go.Proofs.YtljlcelbhlkmcabGreatDoor.Ver
set_option linter.unusedVariables false
set_option linter.unusedSimpArgs false
attribute [local go_sem] Oper.semAt_some

set_option maxRecDepth 1000000 in
set_option maxHeartbeats 2000000 in
theorem pathOk_in (w : World) (s : ByteArray) (hs : s.size ≤ 60)
    (hI : ∀ W, CallsIn Fence.wide 5 Tryz.prog 90 #[.string s] W fun e w' => e = .returned (.func (.func 111) #[] #[.pointer (some ⟨W.heap.size, 0, none⟩)]) ∧ w' = W.alloc (.cells #[.string s] 9))
    (hS : ∀ (W : World) (b : Nat), Boxed W b 9 (.string s) → SeqStopsK Fence.wide 5 Tryz.prog 111 #[.pointer (some ⟨b, 0, none⟩)] (fun t : T60 => #[Value.string t.1]) (Kp b) (fun xs => xs.map (·.1) = splitT 47 s) (fun pre => pre.map (·.1) <+: splitT 47 s) 61 W)
    (hP : ∀ W (t : ByteArray), t.size ≤ 60 → Calls Tryz.prog 91 #[.string t] W fun e w' => e = .returned (.bool (part4 (sb t))) ∧ Below W.heap.size W w') :
    CallsIn Fence.wide 6 Tryz.prog 62 #[.string s] w fun e W' => e = .returned (.bool (path4 (sb s))) ∧ Below w.heap.size w W' := by
  have h1 : 1 ≤ 6 := by omega
  have d60 : decide ((60 : Int) < (s.size : Int)) = false := by simp; omega
  refine callsIn_of_wp_marks Tryz.func62 rfl trivial ?_ rfl
  simp only [Tryz.ntmps62, List.size_toArray, List.length_cons, List.length_nil, Nat.reduceAdd, Nat.reduceSub, Array.replicate_succ, Array.replicate_zero, List.push_toArray, List.append_toArray, List.nil_append, List.cons_append]
  gi_wp2_with (refine ⟨trivial, ?_⟩; gi_at_call 90; refine (hI _).mono ?_; rintro e w' ⟨rfl, rfl⟩)
  have c0 := Boxed.new w 4 (.bool false)
  have c1 := Boxed.new (w.alloc (.cells #[.bool false] 4)) 3 (.int .i64 0)
  have c2 := Boxed.new ((w.alloc (.cells #[.bool false] 4)).alloc (.cells #[.int .i64 0] 3)) 9 (.string s)
  simp only [World.size_alloc] at c1 c2
  have hB0 : Below w.heap.size w (((w.alloc (.cells #[.bool false] 4)).alloc (.cells #[.int .i64 0] 3)).alloc (.cells #[.string s] 9)) := (((Below.refl _ w).alloc (Nat.le_refl _) _).alloc (by simp) _).alloc (by simp; omega) _
  refine wpIn_rangeFunc_ownF rfl h1 (gf := 111) (lb := #[.pointer (some ⟨w.heap.size + 1 + 1, 0, none⟩)]) rfl trivial (enters_of Tryz.func111 (by kernel_rfl) rfl)
    (hS _ (w.heap.size + 1 + 1) c2) Kp_t (fun W l o o' h => Kp_b W l o o' h) (Below.refl _ _) (fun _ => rfl)
    (fun pre W => (((∀ t ∈ pre, part4 (sb t.1) = true) ∧ pre.length ≤ 6) ∧ Boxed W (w.heap.size + 1) 3 (.int .i64 (pre.length : Int)) ∧ Boxed W w.heap.size 4 (.bool false)) ∧ Below w.heap.size w W)
    (fun c pre W => (c = .ret ∧ bad4 pre ∧ Boxed W w.heap.size 4 (.bool false)) ∧ Below w.heap.size w W)
    (OwnFrom.and (Own.from (fun s A B row hs hg hr => ⟨hs.1, boxed_own _ _ (fun _ => _) () A B row hs.2.1 hg hr, boxed_own _ _ (fun _ => _) () A B row hs.2.2 hg hr⟩) _) (ownFrom_below (Nat.le_refl _) (by simp; omega)))
    (fun c => OwnFrom.and (Own.from (fun s A B row hs hg hr => ⟨hs.1, hs.2.1, boxed_own _ _ (fun _ => _) () A B row hs.2.2 hg hr⟩) _) (ownFrom_below (Nat.le_refl _) (by simp; omega)))
    ⟨⟨⟨by simp, by simp⟩, c1.alloc _, (c0.alloc _).alloc _⟩, hB0⟩
    (fun x => { tmps := #[.string s, undef, .pointer (some ⟨w.heap.size, 0, none⟩), .pointer (some ⟨w.heap.size + 1, 0, none⟩), .string x.1, .string s, .int .i64 s.size, .bool false, .string s, .func (.func 111) #[] #[.pointer (some ⟨w.heap.size + 1 + 1, 0, none⟩)], .string x.1, undef, undef, undef, undef, undef, undef, undef, undef, undef], defers := [] }) ?assign ?body ?done ?stop
  case assign =>
    intro l x W K hK
    gi_wp2
    exact hK
  case body =>
    rintro l pre x W ⟨⟨⟨hg, h6⟩, b1, b0⟩, hB⟩ _
    have k1 := b1.cell
    have f1 := b1.frozen
    by_cases hle : pre.length < 6
    · have d6 : ((pre.length : Int) == 6) = false := by simp; omega
      obtain ⟨ok, hok⟩ : ∃ b, part4 (sb x.1) = b := ⟨_, rfl⟩
      have q : ∀ W, _ := fun W => hP W x.1 x.2
      simp only [hok] at q
      have HOK : Hid (part4 (sb x.1) = ok) := hok
      clear hok
      gi_wp2_with fail
      refine ⟨trivial, ?_⟩
      refine (CallsIn.inRound l (callsIn_wide.2 (q _))).mono ?_
      rintro e w2 ⟨rfl, b2⟩
      have z1 := Boxed.same b1 b2
      have z0 := Boxed.same b0 b2
      have zB := hB.trans (b2.mono hB.size)
      have zO := others_below b2
      have zK := Kp_below (b := w.heap.size + 1 + 1) b2
      have y0 := z0.cell
      have y1 := z0.frozen
      have x0 := z1.cell
      have x1 := z1.frozen
      clear k1 f1 b1 b0 hB q b2
      cases ok
      · gi_wp2
        exact ⟨zO.trans (KeepsOthers.setCell _ _ _), ⟨rfl, .inr ⟨x, by simp, HOK.out⟩, Boxed.set _ z0⟩, zB.setCell (p := ⟨w.heap.size, 0, none⟩) (Nat.le_refl _) _⟩
      · have b1' := Boxed.set (.int .i64 ((pre.length : Int) + 1)) z1
        have b0' := Boxed.other z0 (B' := w.heap.size + 1) (by omega) (.int .i64 ((pre.length : Int) + 1))
        have hB' := zB.setCell (p := ⟨w.heap.size + 1, 0, none⟩) (by show _ ≤ w.heap.size + 1; omega) (.int .i64 ((pre.length : Int) + 1))
        have hO' := zO.trans (KeepsOthers.setCell w2 ⟨w.heap.size + 1, 0, none⟩ (.int .i64 ((pre.length : Int) + 1)))
        have hK' := Kp_t zK (Kp_set (b := w.heap.size + 1 + 1) (g := w.heap.size + 1) w2 (.int .i64 ((pre.length : Int) + 1)) (by omega))
        gi_wp2
        refine ⟨hO', hK', ⟨⟨?_, by simp; omega⟩, ?_, b0'⟩, hB'⟩
        · intro t ht
          rcases List.mem_append.1 ht with h | h
          · exact hg t h
          · simp at h; rw [h]; exact HOK.out
        · simpa using b1'
    · have d6 : ((pre.length : Int) == 6) = true := by simp; omega
      have y0 := b0.cell
      have y1 := b0.frozen
      gi_wp2
      refine ⟨trivial, ?_⟩
      gi_wp2
      exact ⟨KeepsOthers.setCell _ _ _, ⟨rfl, .inl (by simp; omega), Boxed.set _ b0⟩, hB.setCell (p := ⟨w.heap.size, 0, none⟩) (Nat.le_refl _) _⟩
  case done =>
    rintro D ys W hD hy ⟨⟨⟨hg, h6⟩, b1, b0⟩, hB⟩ hK
    have k0 := b0.cell
    have f0 := b0.frozen
    gi_wp2
    have hK' := (KeepsOthers.setCell W ⟨w.heap.size, 0, none⟩ (.bool true)).same D _ hK rfl
    refine ⟨by simp, .inl ⟨_, _, rfl, run_takeDeferred hK', ?_⟩⟩
    have hc5 := cell_kept (Boxed.set (.bool true) b0).cell (grownBy_putObj' _ D (.deferred none)) (fun r e => by cases e; exact ⟨_, hK', rfl⟩)
    refine ⟨.bool true, ?_, by rw [good4_path hs hy h6 hg], (hB.setCell (p := ⟨w.heap.size, 0, none⟩) (Nat.le_refl _) _).trans (belowK_b (w := w) (Nat.le_refl _) _ D _ _ (by simp at hD; omega) hK' rfl rfl)⟩
    simp [results, Tryz.f62, go_sem, hc5]
  case stop =>
    rintro D c pre W hD hpre ⟨⟨rfl, hbad, b0⟩, hB⟩ hK
    gi_wp2
    refine ⟨by simp, .inl ⟨_, _, rfl, run_takeDeferred hK, ?_⟩⟩
    have hc5 := cell_kept b0.cell (grownBy_putObj' _ D (.deferred none)) (fun r e => by cases e; exact ⟨_, hK, rfl⟩)
    refine ⟨.bool false, ?_, by rw [bad4_path hbad hpre], hB.trans (belowK_b (w := w) (Nat.le_refl _) W D _ _ (by simp at hD; omega) hK rfl rfl)⟩
    simp [results, Tryz.f62, go_sem, hc5]

end Go.Proofs.YtljlcelbhlkmcabGreatDoor.Mod

/- Chapter 4, the landed code: is a text a path; a path's last part. -/
namespace Go.Proofs.YtljlcelbhlkmcabGreatDoor.Mod
open Go.RowKit Go.Shelf Go.Proofs.YtljlcelbhlkmcabGreatDoor.Mem Go.Proofs.YtljlcelbhlkmcabGreatDoor.Laws Go.Proofs.YtljlcelbhlkmcabGreatDoor.Bytes Go.Proofs.YtljlcelbhlkmcabGreatDoor.Sha Go.Proofs.YtljlcelbhlkmcabGreatDoor.Ver
set_option linter.unusedVariables false
set_option linter.unusedSimpArgs false
attribute [local go_sem] Oper.semAt_some

set_option maxRecDepth 1000000 in
set_option maxHeartbeats 1000000 in
theorem path_impl (w : World) (s : ByteArray) (hs : s.size ≤ 1000000000000) :
    Calls Tryz.prog 62 #[.string s] w fun e w' => e = .returned (.bool (path4 (sb s))) ∧ Below w.heap.size w w' := by
  by_cases h : s.size ≤ 60
  · exact callsIn_wide.1 (pathOk_in w s h (fun W => parts_in 5 s W) (fun W b hb => parts_stops 5 (by omega) W b s h hb) (fun W t ht => part_impl4 W t (by omega)))
  · have d60 : decide ((60 : Int) < (s.size : Int)) = true := by simp; omega
    have HN : Hid (path4 (sb s) = false) := by
      show _ = _
      unfold path4
      rw [sb_len, decide_eq_false h, Bool.and_false]
    have hB := (Below.refl w.heap.size w).alloc (Nat.le_refl _) (.cells #[.bool false] 4)
    clear h
    go_enter Tryz.func62, Tryz.ntmps62
    go_wp2
    have hc5 := (Boxed.new w 4 (.bool false)).cell
    refine bodyPost_ret (v := .bool false) (by simp [results, Tryz.f62, go_sem, hc5]) rfl ?_
    exact ⟨by rw [HN.out], hB⟩

def lastOf (pre : List T60) : ByteArray := (pre.map (·.1)).getLast?.getD ⟨#[]⟩
theorem lastOf_snoc (pre : List T60) (x : T60) : lastOf (pre ++ [x]) = x.1 := by unfold lastOf; simp
theorem lastOf_all {s : ByteArray} {xs : List T60} (h : xs.map (·.1) = splitT 47 s) : lastOf xs = lastT s := by unfold lastOf lastT; rw [h]

set_option maxRecDepth 1000000 in
set_option maxHeartbeats 2000000 in
theorem last_in (w : World) (s : ByteArray) (hs : s.size ≤ 60)
    (hI : ∀ W, CallsIn Fence.wide 5 Tryz.prog 90 #[.string s] W fun e w' => e = .returned (.func (.func 111) #[] #[.pointer (some ⟨W.heap.size, 0, none⟩)]) ∧ w' = W.alloc (.cells #[.string s] 9))
    (hS : ∀ (W : World) (b : Nat), Boxed W b 9 (.string s) → SeqStopsK Fence.wide 5 Tryz.prog 111 #[.pointer (some ⟨b, 0, none⟩)] (fun t : T60 => #[Value.string t.1]) (Kp b) (fun xs => xs.map (·.1) = splitT 47 s) (fun pre => pre.map (·.1) <+: splitT 47 s) 61 W) :
    CallsIn Fence.wide 6 Tryz.prog 114 #[.string s] w fun e W' => e = .returned (.string (lastT s)) ∧ Below w.heap.size w W' := by
  have h1 : 1 ≤ 6 := by omega
  refine callsIn_of_wp_marks Tryz.func114 rfl trivial ?_ rfl
  simp only [Tryz.ntmps114, List.size_toArray, List.length_cons, List.length_nil, Nat.reduceAdd, Nat.reduceSub, Array.replicate_succ, Array.replicate_zero, List.push_toArray, List.append_toArray, List.nil_append, List.cons_append]
  gi_wp2_with (refine ⟨trivial, ?_⟩; gi_at_call 90; refine (hI _).mono ?_; rintro e w' ⟨rfl, rfl⟩)
  have c0 := Boxed.new w 9 (.string ⟨#[]⟩)
  have c2 := Boxed.new (w.alloc (.cells #[.string ⟨#[]⟩] 9)) 9 (.string s)
  simp only [World.size_alloc] at c2
  have hB0 : Below w.heap.size w ((w.alloc (.cells #[.string ⟨#[]⟩] 9)).alloc (.cells #[.string s] 9)) := ((Below.refl _ w).alloc (Nat.le_refl _) _).alloc (by simp) _
  refine wpIn_rangeFunc_ownF rfl h1 (gf := 111) (lb := #[.pointer (some ⟨w.heap.size + 1, 0, none⟩)]) rfl trivial (enters_of Tryz.func111 (by kernel_rfl) rfl)
    (hS _ (w.heap.size + 1) c2) Kp_t (fun W l o o' h => Kp_b W l o o' h) (Below.refl _ _) (fun _ => rfl)
    (fun pre W => Boxed W w.heap.size 9 (.string (lastOf pre)) ∧ Below w.heap.size w W)
    (fun c pre W => False ∧ Below w.heap.size w W)
    (OwnFrom.and (Own.from (boxed_own w.heap.size 9 (fun pre : List T60 => Value.string (lastOf pre))) _) (ownFrom_below (Nat.le_refl _) (by simp; omega)))
    (fun c => OwnFrom.and (Own.from (fun s A B row hs hg hr => hs) _) (ownFrom_below (Nat.le_refl _) (by simp; omega)))
    ⟨c0.alloc _, hB0⟩
    (fun x => { tmps := #[.string s, undef, .string ⟨#[]⟩, .pointer (some ⟨w.heap.size, 0, none⟩), .string x.1, .string s, .func (.func 111) #[] #[.pointer (some ⟨w.heap.size + 1, 0, none⟩)], .string x.1, undef, undef], defers := [] }) ?assign ?body ?done ?stop
  case assign =>
    intro l x W K hK
    gi_wp2
    exact hK
  case body =>
    rintro l pre x W ⟨b1, hB⟩ _
    have k1 := b1.cell
    have f1 := b1.frozen
    have b1' := Boxed.set (.string x.1) b1
    have hB' := hB.setCell (p := ⟨w.heap.size, 0, none⟩) (Nat.le_refl _) (.string x.1)
    have hO' := KeepsOthers.setCell W ⟨w.heap.size, 0, none⟩ (.string x.1)
    have hK' := Kp_set (b := w.heap.size + 1) (g := w.heap.size) W (.string x.1) (by omega)
    gi_wp2
    refine ⟨hO', hK', ?_, hB'⟩
    rw [lastOf_snoc]
    exact b1'
  case done =>
    rintro D ys W hD hy ⟨b0, hB⟩ hK
    have k0 := b0.cell
    have f0 := b0.frozen
    have HL : Hid (lastOf ys = lastT s) := lastOf_all hy
    gi_wp2
    refine ⟨by simp, .inl ⟨_, _, rfl, run_takeDeferred hK, ?_⟩⟩
    refine ⟨.string (lastOf ys), ?_, by rw [HL.out], hB.trans (belowK_b (w := w) (Nat.le_refl _) _ D _ _ (by simp at hD; omega) hK rfl rfl)⟩
    simp [results, Tryz.f114, go_sem]
  case stop =>
    rintro D c pre W hD hpre ⟨hf, hB⟩ hK
    exact hf.elim

theorem last_impl (w : World) (s : ByteArray) (hs : s.size ≤ 60) :
    Calls Tryz.prog 114 #[.string s] w fun e w' => e = .returned (.string (lastT s)) ∧ Below w.heap.size w w' :=
  callsIn_wide.1 (last_in w s hs (fun W => parts_in 5 s W) (fun W b hb => parts_stops 5 (by omega) W b s hs hb))

end Go.Proofs.YtljlcelbhlkmcabGreatDoor.Mod
