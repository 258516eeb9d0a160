/- Texts in one: Fh1. -/
import Derived.Test.YtlhmemnaiobgkaaGreatDoorPq8
import Derived.Test.YtlhmemnaiobgkaaGreatDoorPq12
import Derived.Test.YtlhmemnaiobgkaaGreatDoorPq16
/- Chapter 15, draws: entries that need one another. -/
namespace Go.Proofs.YtlhmemnaiobgkaaGreatDoor.Fe
open Go.RowKit Go.Proofs.YtlhmemnaiobgkaaGreatDoor.Mem Go.Proofs.YtlhmemnaiobgkaaGreatDoor.Laws Go.Proofs.YtlhmemnaiobgkaaGreatDoor.Bytes Go.Proofs.YtlhmemnaiobgkaaGreatDoor.Ver Go.Proofs.YtlhmemnaiobgkaaGreatDoor.Ent Go.Proofs.YtlhmemnaiobgkaaGreatDoor.Draw
set_option linter.unusedVariables false
set_option linter.unusedSimpArgs false

def cst : Bool → Nat
  | true => 0
  | false => 1
theorem stepA_grow (n : Nd) (s : List Nd × Bool) (x : Nd) : (stepA n s x).1.length + cst (stepA n s x).2 ≤ s.1.length + cst s.2 := by
  unfold stepA
  split
  · rename_i h
    simp only [Bool.and_eq_true, Bool.not_eq_true'] at h
    rw [h.1]
    simp [cst]
  · exact Nat.le_refl _
theorem stepB_grow (n : Nd) (s : List Nd × Bool) (x : Nd) : (stepB n s x).1.length + cst (stepB n s x).2 ≤ s.1.length + 1 + cst s.2 := by
  unfold stepB
  split
  · simp
  · omega
theorem step_grow (n : Nd) (s : List Nd × Bool) (x : Nd) : (stepN n s x).1.length + cst (stepN n s x).2 ≤ s.1.length + 1 + cst s.2 := by
  have h1 := stepA_grow n s x
  have h2 := stepB_grow n (stepA n s x) x
  unfold stepN
  omega
theorem fold_grow (n : Nd) : ∀ (l : List Nd) (s : List Nd × Bool), (l.foldl (stepN n) s).1.length + cst (l.foldl (stepN n) s).2 ≤ s.1.length + l.length + cst s.2 := by
  intro l
  induction l with
  | nil => intro s; simp
  | cons x r ih =>
    intro s
    have h1 := ih (stepN n s x)
    have h2 := step_grow n s x
    simp only [List.foldl_cons, List.length_cons]
    omega
theorem ins_grow (l : List Nd) (n : Nd) : (insN l n).length ≤ l.length + 1 := by
  have h := fold_grow n l ([], false)
  simp only [List.length_nil] at h
  unfold insN
  split
  · rename_i h9; rw [h9] at h; simp only [cst] at h; omega
  · rename_i h9
    rw [Bool.not_eq_true] at h9
    rw [h9] at h
    simp only [cst] at h
    rw [List.length_append]
    simp only [List.length_singleton]
    omega

/-- the sizes of what is drawn -/
def Dz (m : Nd) : Prop := m.path.size ≤ 60 ∧ m.pre.size ≤ 60
def Dx (x : Ev) : Prop := Dz x.n ∧ x.l.length ≤ 3 ∧ ∀ m ∈ x.l, Dz m
theorem Dz.ins {l : List Nd} {n : Nd} (h : ∀ m ∈ l, Dz m) (hn : Dz n) : ∀ m ∈ insN l n, Dz m := fun m hm => by
  rcases ins_mem hm with rfl | h9
  · exact hn
  · exact h m h9
/-- entries in a slice that is owned, with needs that are owned; all ends ahead of what is new -/
def Oet (w : World) (lo hi : Nat) (v : Value) (T : List Ev) : Prop := On 6 w lo hi 34 v T.length (ecs T) ∧ (∀ x ∈ T, Od w lo hi x.u x.l) ∧ hi ≤ w.heap.size
theorem Oet.se {w : World} {lo hi : Nat} {v : Value} {T : List Ev} (h : Oet w lo hi v T) : Se w v T := ⟨On.sn h.1, fun x hx => (h.2.1 x hx).sd⟩
theorem Oet.later {w w' : World} {lo hi : Nat} {v : Value} {T : List Ev} (h : Oet w lo hi v T) (b : Below w.heap.size w w') : Oet w' lo hi v T := ⟨On.later h.1 b h.2.2, fun x hx => On.later (h.2.1 x hx) b h.2.2, Nat.le_trans h.2.2 b.size⟩
theorem Oet.drawn {W0 w w' : World} {g lo hi : Nat} {vb : Value} {xs : List Int} {v : Value} {T : List Ev} (h : Oet w lo hi v T) (d : Drawn W0 w g vb xs w') (hg : g < lo ∨ hi ≤ g) : Oet w' lo hi v T :=
  ⟨On.apart h.1 d.apart (by omega) h.2.2, fun x hx => On.apart (h.2.1 x hx) d.apart (by omega) h.2.2, Nat.le_trans h.2.2 d.apart.size⟩
theorem Oet.gro {w w' : World} {lo hi : Nat} {v : Value} {T : List Ev} {r : Option Nat} (h : Oet w lo hi v T) (g : w.grownBy w' r) (hr : ∀ k, r = some k → k < lo ∨ hi ≤ k) : Oet w' lo hi v T :=
  ⟨On.keep h.1 fun k h1 h2 => g.block k (by have := h.2.2; omega) (fun e => by have := hr k e.symm; omega), fun x hx => On.keep (h.2.1 x hx) fun k h1 h2 => g.block k (by have := h.2.2; omega) (fun e => by have := hr k e.symm; omega), Nat.le_trans h.2.2 g.size⟩
theorem Oet.form {w : World} {lo hi : Nat} {v : Value} {T : List Ev} (h : Oet w lo hi v T) : ∃ ao cap, v = .slice ao T.length cap ∧ T.length ≤ cap := by
  obtain ⟨_, ao, cap, rfl, hc, _⟩ := On.sn h.1
  exact ⟨ao, cap, rfl, hc⟩
theorem Odt.drawn {W0 w w' : World} {g lo hi : Nat} {vb : Value} {xs : List Int} {v : Value} {l : List Nd} (h : Odt w lo hi v l) (d : Drawn W0 w g vb xs w') (hg : g < lo ∨ hi ≤ g) : Odt w' lo hi v l :=
  ⟨On.apart h.1 d.apart (by omega) h.2, Nat.le_trans h.2 d.apart.size⟩
theorem Oet.snoc {w w' : World} {lo hi lo2 hi2 : Nat} {v v' : Value} {T : List Ev} {x : Ev} (h : Oet w lo hi v T) (hd : Odt w lo2 hi2 x.u x.l) (gr : w.grownBy w' v.ownBlock) (o : On 6 w' lo w'.heap.size 34 v' (T.length + 1) (ecs T ++ (ec x.n x.u).toList)) (h1 : lo ≤ lo2) : Oet w' lo w'.heap.size v' (T ++ [x]) := by
  have hne : ∀ {a b : Nat} {u : Value} {l : List Nd}, Od w a b u l → Od w' a b u l := fun {a b u l} h9 => On.keep1 h9 (fun j hj => gr.block j (On.lt h9 hj).2.2 (fun e9 => by
    rcases h9.1.2 with ⟨rfl, _⟩ | ⟨g9, cap, cur, rfl, _, hgb, _⟩
    · simp [Value.ownBlock] at hj
    · simp [Value.ownBlock] at hj
      subst hj
      exact On.neRow h.1 hgb (by decide) e9.symm))
  have hs := gr.size
  refine ⟨by rw [List.length_append, ecs_snoc]; exact o, fun y hy => ?_, Nat.le_refl _⟩
  rcases List.mem_append.1 hy with h9 | h9
  · exact On.mono (hne (h.2.1 y h9)) (Nat.le_refl _) (Nat.le_trans h.2.2 hs)
  · rw [List.mem_singleton.1 h9]
    exact On.mono (hne hd.1) h1 (Nat.le_trans hd.2 hs)
theorem Od.empty9 (w : World) (lo hi : Nat) : Od w lo hi (.slice none 0 0) [] := On.nil 5 w lo hi _
theorem On.far9 {n m : Nat} {w : World} {lo hi g : Nat} {e : TypeId} {v : Value} {cs : List Value} (h : On n w lo hi e v m cs) (hg : g < lo ∨ hi ≤ g) : v.ownBlock ≠ some g := fun hv => by have := On.lt h hv; omega
theorem at15_nil (q : Nd) : at15 q [] 0 = -1 := rfl

set_option maxRecDepth 1000000 in
set_option maxHeartbeats 8000000 in
theorem draw15_any (W0 w : World) (g : Nat) (vb : Value) (xs : List Int) (hs : Sl W0 vb (bs xs)) (hby : Byt xs) (hx : xs.length ≤ 140737488355328) (hB : Below W0.heap.size W0 w) (hg : W0.heap.size ≤ g) (hcu : Cur w g vb xs.length) :
    Calls Tryz.prog 34 #[.pointer (some ⟨g, 0, none⟩)] w fun e w' => ∃ (v : Value) (T : List Ev), e = .returned v ∧ 1 ≤ T.length ∧ T.length ≤ 8 ∧ (∀ x ∈ T, Dx x) ∧ Oet w' w.heap.size w'.heap.size v T ∧ Drawn W0 w g vb xs w' := by
  obtain ⟨i0, hi, hz0, hz1, hz2⟩ := info_parts infoEn
  have HSW : Hid (Sl W0 vb (bs xs)) := hs
  have hgw := hcu.lt
  clear hs
  have B0 : Hid (Apart g (g + 1) w w) := Apart.refl _ _ _
  have cu0 : Hid (Cur w (g) vb xs.length) := hcu
  have bw0 : Hid (Below W0.heap.size W0 w) := hB
  go_enter Tryz.func34, Tryz.ntmps34
  obtain ⟨W1, HW1, b1, f_o1⟩ : ∃ X, Hid (w.alloc (.cells #[] 34) = X) ∧ Below w.heap.size w X ∧ Hid (Oet X w.heap.size X.heap.size (.slice (some ⟨w.heap.size, 0, none⟩) 0 0) []) := ⟨_, rfl, (Below.refl _ _).alloc (Nat.le_refl _) _, ⟨On.lit 6 w w.heap.size 34 (Nat.le_refl _), fun x hx => (by cases hx), Nat.le_refl _⟩⟩
  have z1 := b1.size
  have B1 := Kd.B B0 b1
  have cu1 := Kd.c cu0 b1
  have bw1 := Ke.b bw0 b1
  clear cu0 bw0
  clear b1
  go_wp2_with fail
  rw [HW1.out]
  refine (below_any W0 W1 g vb xs 7 (by omega) (by omega) HSW.out hby hx bw1.out hg cu1.out).mono ?_
  rintro e W2 ⟨y, rfl, hy0, hy1, d2⟩
  have z2 := d2.apart.size
  have B2 := Kd.D B1 d2
  have cu2 := Kd.e d2
  have bw2 := Kd.f d2
  have f_o2 : Hid (Oet W2 w.heap.size W1.heap.size (.slice (some ⟨w.heap.size, 0, none⟩) 0 0) []) := Oet.drawn f_o1.out d2 (by omega)
  clear cu1 bw1 d2 f_o1
  obtain ⟨j0, hj0, hj1, hj2⟩ : ∃ j : Nat, (2 : Int) + y = (j : Int) ∧ 2 ≤ j ∧ j ≤ 8 := ⟨((2 : Int) + y).toNat, by omega, by omega, by omega⟩
  have w1 : IntKind.i64.wrap (2 + y) = (j0 : Int) := by rw [hj0, IntKind.wrap_i64]; omega
  clear hj0
  go_wp2
  go_loopw [3, 4] (fun ov iv wr => ∃ (j : Nat) (T : List Ev) (ao : Option Addr) (cap hi : Nat), ov = .slice ao T.length cap ∧ iv = .int .i64 (j : Int) ∧ T.length + j ≤ 8 ∧ 1 ≤ T.length + j ∧ w.heap.size ≤ hi ∧ hi ≤ wr.heap.size ∧ Hid (∀ x ∈ T, Dx x) ∧ Hid (Oet wr w.heap.size hi (.slice ao T.length cap) T) ∧ Hid (Apart g (g + 1) w wr) ∧ Hid (Cur wr (g) vb xs.length) ∧ Hid (Below W0.heap.size W0 wr)) (fun _ iv _ => (intOf iv).toNat)
  case atStart => exact ⟨j0, [], some ⟨w.heap.size, 0, none⟩, 0, W1.heap.size, rfl, rfl, by simp; omega, by simp; omega, by omega, by omega, (fun x hx => by cases hx), f_o2, B2, cu2, bw2⟩
  case round =>
    obtain ⟨j, T, ao, cap, hio, rfl, rfl, hTj, hTj1, hwo, hoW, HDX, f_o3, B3, cu3, bw3⟩ := hrel
    obtain ⟨W3, hW3⟩ : ∃ X, X = wr := ⟨_, rfl⟩
    subst hW3
    have hTc : T.length ≤ cap := by obtain ⟨a9, c9, e9, h9⟩ := f_o3.out.form; injection e9 with _ _ e9; omega
    clear f_o2 cu2 bw2 w1
    by_cases hj0 : j = 0
    · subst hj0
      go_wp2
      go_ret
      exact ⟨_, T, rfl, by omega, by omega, HDX.out, ⟨On.mono f_o3.out.1 (Nat.le_refl _) f_o3.out.2.2, fun x hx => On.mono (f_o3.out.2.1 x hx) (Nat.le_refl _) f_o3.out.2.2, Nat.le_refl _⟩, ⟨cu3.out, B3.out, bw3.out⟩⟩
    · obtain ⟨i2, rfl⟩ : ∃ i2, j = i2 + 1 := ⟨j - 1, by omega⟩
      have d0 : (0 : Int) < ((i2 + 1 : Nat) : Int) := by omega
      have wj : IntKind.i64.wrap (((i2 + 1 : Nat) : Int) - 1) = (i2 : Int) := by rw [IntKind.wrap_i64]; omega
      clear hj0
      go_wp2_with fail
      refine (need_any W0 W3 g vb xs HSW.out hby hx bw3.out hg cu3.out).mono ?_
      rintro e W4 ⟨n, rfl, hn0, d4⟩
      have z4 := d4.apart.size
      have B4 := Kd.D B3 d4
      have cu4 := Kd.e d4
      have bw4 := Kd.f d4
      have f_o4 : Hid (Oet W4 w.heap.size hio (.slice ao T.length cap) T) := Oet.drawn f_o3.out d4 (by omega)
      clear cu3 bw3 d4 f_o3
      have hn := hn0.size
      have hnz : Dz ⟨n.path, n.a, n.b, n.c, ⟨#[]⟩⟩ := ⟨hn.1, Nat.zero_le _⟩
      clear hn0
      obtain ⟨W5, HW5, b5, y5, hS5, r_n5⟩ := Ke.l1 W4 #[.string n.path, .int .i64 n.a, .int .i64 n.b, .int .i64 n.c, .string n.pre] 38
      have z5 := b5.size
      have B5 := Kd.B B4 b5
      have c_n5 := Ke.c r_n5
      have f_o5 : Hid (Oet W5 w.heap.size hio (.slice ao T.length cap) T) := Oet.later f_o4.out b5
      clear f_o4
      have cu5 := Kd.c cu4 b5
      have bw5 := Ke.b bw4 b5
      clear cu4 bw4
      go_wp2_with ((try rw [HW5.out]); refine wpl_oneG rfl 9 _ _ rfl (W4.heap.size) 4 (.string ⟨#[]⟩) rfl rfl [.string n.path, .int .i64 n.a, .int .i64 n.b, .int .i64 n.c, .string n.pre] 38 r_n5.out (Nat.le_of_ble_eq_true rfl) (by kernel_rfl) rfl [.string n.path, .int .i64 n.a, .int .i64 n.b, .int .i64 n.c, .string ⟨#[]⟩] rfl ?_)
      intro W6 r_n6 g6
      have f_o6 : Hid (Oet W6 w.heap.size hio (.slice ao T.length cap) T) := Oet.gro f_o5.out g6 (fun k9 h9 => by injection h9 with h9; omega)
      have cu6 : Hid (Cur W6 (g) vb xs.length) := cu5.out.gro g6 (fun h9 => by injection h9 with h9; omega)
      have bw6 : Hid (Below W0.heap.size W0 W6) := belowGro bw5.out g6 bw5.out.size (fun k9 h9 => by injection h9 with h9; omega)
      clear cu5 bw5
      have r_n6 : Hid (W6.heap[W4.heap.size]? = some (.cells #[.string n.path, .int .i64 n.a, .int .i64 n.b, .int .i64 n.c, .string ⟨#[]⟩] 38 (0, 0))) := r_n6
      have z6 := g6.size
      have B6 : Hid (Apart g (g + 1) w W6) := Apart.gro5 B5.out g6 (fun k9 h9 => by injection h9 with h9; have := B5.out.size; omega)
      have c_n6 := Ke.c r_n6
      clear r_n5 c_n5
      clear f_o5
      clear g6
      have sv_n := Ke.c r_n6
      have a_n6 := Ke.a r_n6
      obtain ⟨W7, HW7, b7, y7, hS7, r_e7⟩ := Ke.l1 W6 #[.string n.path, .int .i64 n.a, .int .i64 n.b, .int .i64 n.c, .string ⟨#[]⟩, .slice none 0 0] 34
      have z7 := b7.size
      have B7 := Kd.B B6 b7
      have r_n7 := Ke.r r_n6 b7
      have c_n7 := Ke.c r_n7
      have c_e7 := Ke.c r_e7
      clear r_n6 c_n6
      have f_o7 : Hid (Oet W7 w.heap.size hio (.slice ao T.length cap) T) := Oet.later f_o6.out b7
      clear f_o6
      have cu7 := Kd.c cu6 b7
      have bw7 := Ke.b bw6 b7
      clear cu6 bw6
      go_wp2_with fail
      rw [HW7.out]
      clear a_n6
      refine (below_any W0 W7 g vb xs 3 (by omega) (by omega) HSW.out hby hx bw7.out hg cu7.out).mono ?_
      rintro e W8 ⟨y2, rfl, hy20, hy21, d8⟩
      have z8 := d8.apart.size
      have B8 := Kd.D B7 d8
      have cu8 := Kd.e d8
      have bw8 := Kd.f d8
      have r_n8 : Hid (W8.heap[W4.heap.size]? = some (.cells #[.string n.path, .int .i64 n.a, .int .i64 n.b, .int .i64 n.c, .string ⟨#[]⟩] 38 (0, 0))) := drawnRow r_n7.out d8 (by omega)
      have r_e8 : Hid (W8.heap[W6.heap.size]? = some (.cells #[.string n.path, .int .i64 n.a, .int .i64 n.b, .int .i64 n.c, .string ⟨#[]⟩, .slice none 0 0] 34 (0, 0))) := drawnRow r_e7.out d8 (by omega)
      have f_o8 : Hid (Oet W8 w.heap.size hio (.slice ao T.length cap) T) := Oet.drawn f_o7.out d8 (by omega)
      have c_n8 := Ke.c r_n8
      have c_e8 := Ke.c r_e8
      clear r_n7 c_n7 r_e7 c_e7
      clear cu7 bw7 d8 f_o7
      obtain ⟨k0, hk0, hk1⟩ : ∃ k0 : Nat, y2 = (k0 : Int) ∧ k0 ≤ 2 := ⟨y2.toNat, by omega, by omega⟩
      subst hk0
      clear sv_n
      clear r_n8 c_n8
      go_wp2
      go_loopw [7] (fun kv wr => ∃ (kk : Nat) (L : List Nd) (a8 : Option Addr) (L8 c8 lo8 hi8 : Nat), kv = .int .i64 (kk : Int) ∧ L.length + kk ≤ 2 ∧ W8.heap.size ≤ lo8 ∧ lo8 ≤ hi8 ∧ hi8 ≤ wr.heap.size ∧ W8.heap.size ≤ wr.heap.size ∧ Hid (∀ m ∈ L, Dz m) ∧ Hid (wr.heap[W6.heap.size]? = some (.cells #[.string n.path, .int .i64 n.a, .int .i64 n.b, .int .i64 n.c, .string ⟨#[]⟩, .slice a8 L8 c8] 34 (0, 0))) ∧ Hid (Odt wr lo8 hi8 (.slice a8 L8 c8) L) ∧ Hid (Oet wr w.heap.size hio (.slice ao T.length cap) T) ∧ Hid (Apart g (g + 1) w wr) ∧ Hid (Cur wr (g) vb xs.length) ∧ Hid (Below W0.heap.size W0 wr)) (fun kv _ => (intOf kv).toNat)
      case atStart => exact ⟨k0, [], none, 0, 0, W8.heap.size, W8.heap.size, rfl, by simp; omega, Nat.le_refl _, Nat.le_refl _, Nat.le_refl _, Nat.le_refl _, (fun x hx => by cases hx), r_e8, ⟨Od.empty9 _ _ _, Nat.le_refl _⟩, f_o8, B8, cu8, bw8⟩
      case round =>
        obtain ⟨kk, L, a8, L8, c8, lo8, hi8, rfl, hLk, hlo8, hlh8, hhi8, hWi, HLZ, r_e9, f_d9, f_o9, B9, cu9, bw9⟩ := hrel
        obtain ⟨W9, hW9⟩ : ∃ X, X = wr := ⟨_, rfl⟩
        subst hW9
        clear r_e8 c_e8 f_o8 cu8 bw8
        have c_e9 := Ke.c r_e9
        by_cases hgo : 0 < kk ∧ 0 < T.length
        · obtain ⟨k2, rfl⟩ : ∃ k2, kk = k2 + 1 := ⟨kk - 1, by omega⟩
          have c1 : (0 : Int) < ((k2 + 1 : Nat) : Int) := by omega
          have c2 : (0 : Int) < (T.length : Int) := by omega
          have c3 : IntKind.i64.wrap (((k2 + 1 : Nat) : Int) - 1) = (k2 : Int) := by rw [IntKind.wrap_i64]; omega
          clear hgo
          go_wp2_with fail
          refine (below_any W0 W9 g vb xs (T.length : Int) (by omega) (by omega) HSW.out hby hx bw9.out hg cu9.out).mono ?_
          rintro e W10 ⟨y3, rfl, hy30, hy31, d10⟩
          have z10 := d10.apart.size
          have B10 := Kd.D B9 d10
          have cu10 := Kd.e d10
          have bw10 := Kd.f d10
          have r_e10 : Hid (W10.heap[W6.heap.size]? = some (.cells #[.string n.path, .int .i64 n.a, .int .i64 n.b, .int .i64 n.c, .string ⟨#[]⟩, .slice a8 L8 c8] 34 (0, 0))) := drawnRow r_e9.out d10 (by omega)
          have f_o10 : Hid (Oet W10 w.heap.size hio (.slice ao T.length cap) T) := Oet.drawn f_o9.out d10 (by omega)
          have f_d10 : Hid (Odt W10 lo8 hi8 (.slice a8 L8 c8) L) := Odt.drawn f_d9.out d10 (by omega)
          have c_e10 := Ke.c r_e10
          clear r_e9 c_e9
          clear cu9 bw9 d10 f_o9 f_d9
          obtain ⟨p, hp0, hp1⟩ : ∃ p : Nat, y3 = (p : Int) ∧ p < T.length := ⟨y3.toNat, by omega, by omega⟩
          subst hp0
          clear hy30 hy31
          obtain ⟨x, hx9⟩ : ∃ x, T[p]? = some x := ⟨T[p], by simp [hp1]⟩
          obtain ⟨bx, offx, capx, he, _, m0, m1, m2, m3, m4, m5, hsdx⟩ := Se.at f_o10.out.se hx9
          simp only [Value.slice.injEq] at he
          obtain ⟨rfl, _, rfl⟩ := he
          have hxz := (HDX.out x (List.mem_of_getElem? hx9)).1
          obtain ⟨ax, Lx, cx, hux⟩ : ∃ ax Lx cx, x.u = .slice ax Lx cx := by obtain ⟨_, ax, cx, hux, _⟩ := hsdx; exact ⟨ax, _, cx, hux⟩
          rw [hux] at m5
          clear hx9 hsdx hux
          have e9a : (p : Int) < (T.length : Int) := by omega
          have a_e10 := Ke.a r_e10
          obtain ⟨W11, HW11, b11, y11, hS11, r_x11⟩ := Ke.l1 W10 #[.string x.n.path, .int .i64 x.n.a, .int .i64 x.n.b, .int .i64 x.n.c, .string x.n.pre, .slice ax Lx cx] 34
          have z11 := b11.size
          have B11 := Kd.B B10 b11
          have r_e11 := Ke.r r_e10 b11
          have c_e11 := Ke.c r_e11
          have c_x11 := Ke.c r_x11
          clear r_e10 c_e10
          have f_o11 : Hid (Oet W11 w.heap.size hio (.slice (some ⟨bx, offx, none⟩) T.length cap) T) := Oet.later f_o10.out b11
          have f_d11 : Hid (Odt W11 lo8 hi8 (.slice a8 L8 c8) L) := Odt.later f_d10.out b11
          clear f_o10 f_d10
          have cu11 := Kd.c cu10 b11
          have bw11 := Ke.b bw10 b11
          clear cu10 bw10
          obtain ⟨P, hP⟩ : ∃ P, (x.n.path.toList == n.path.toList) = P := ⟨_, rfl⟩
          have hP2 : (x.n.path.toList != n.path.toList) = (!P) := by rw [bne, hP]
          cases P <;> simp only [Bool.not_true, Bool.not_false] at hP2
          · go_wp2_with fail
            rw [HW11.out]
            clear a_e10
            clear m0 m1 m2 m3 m4 m5
            refine (put_any W11 _ L x.n f_d11.out.1.sd (by omega)).mono ?_
            rintro e W12 ⟨v9, rfl, od9, b12⟩
            have z12 := b12.size
            have B12 := Kd.B B11 b12
            have r_e12 := Ke.r r_e11 b12
            have r_x12 := Ke.r r_x11 b12
            have c_e12 := Ke.c r_e12
            have c_x12 := Ke.c r_x12
            clear r_e11 c_e11 r_x11 c_x11
            have f_o12 : Hid (Oet W12 w.heap.size hio (.slice (some ⟨bx, offx, none⟩) T.length cap) T) := Oet.later f_o11.out b12
            have f_d12 : Hid (Odt W12 lo8 hi8 (.slice a8 L8 c8) L) := Odt.later f_d11.out b12
            clear f_o11 f_d11
            have cu12 := Kd.c cu11 b12
            have bw12 := Ke.b bw11 b12
            clear cu11 bw11
            obtain ⟨a9, L9, c9, rfl⟩ : ∃ a9 L9 c9, v9 = .slice a9 L9 c9 := by obtain ⟨a9, c9, e9⟩ := Od.slice od9; exact ⟨a9, _, c9, e9⟩
            clear f_d12
            have f_d12 : Hid (Odt W12 W11.heap.size W12.heap.size (.slice a9 L9 c9) (insN L x.n)) := ⟨od9, Nat.le_refl _⟩
            clear od9
            clear r_x12 c_x12
            have HLZ2 : Hid (∀ m ∈ insN L x.n, Dz m) := Dz.ins HLZ.out hxz
            have hLk2 := ins_grow L x.n
            go_wp2_with (refine wpl_oneG rfl 25 _ _ rfl (W6.heap.size) 5 (.slice a9 L9 c9) rfl rfl [.string n.path, .int .i64 n.a, .int .i64 n.b, .int .i64 n.c, .string ⟨#[]⟩, .slice a8 L8 c8] 34 r_e12.out (Nat.le_of_ble_eq_true rfl) (by kernel_rfl) rfl [.string n.path, .int .i64 n.a, .int .i64 n.b, .int .i64 n.c, .string ⟨#[]⟩, .slice a9 L9 c9] rfl ?_)
            intro W13 r_e13 g13
            have f_o13 : Hid (Oet W13 w.heap.size hio (.slice (some ⟨bx, offx, none⟩) T.length cap) T) := Oet.gro f_o12.out g13 (fun k9 h9 => by injection h9 with h9; omega)
            have f_d13 : Hid (Odt W13 W11.heap.size W12.heap.size (.slice a9 L9 c9) (insN L x.n)) := Odt.gro f_d12.out g13 (fun k9 h9 => by injection h9 with h9; omega)
            have cu13 : Hid (Cur W13 (g) vb xs.length) := cu12.out.gro g13 (fun h9 => by injection h9 with h9; omega)
            have bw13 : Hid (Below W0.heap.size W0 W13) := belowGro bw12.out g13 bw12.out.size (fun k9 h9 => by injection h9 with h9; omega)
            clear cu12 bw12
            have r_e13 : Hid (W13.heap[W6.heap.size]? = some (.cells #[.string n.path, .int .i64 n.a, .int .i64 n.b, .int .i64 n.c, .string ⟨#[]⟩, .slice a9 L9 c9] 34 (0, 0))) := r_e13
            have z13 := g13.size
            have B13 : Hid (Apart g (g + 1) w W13) := Apart.gro5 B12.out g13 (fun k9 h9 => by injection h9 with h9; have := B12.out.size; omega)
            have c_e13 := Ke.c r_e13
            clear r_e12 c_e12
            clear f_o12
            clear f_d12
            clear g13
            go_wp2
            go_roundw
            case rel => exact ⟨k2, insN L x.n, a9, L9, c9, W11.heap.size, W12.heap.size, by go_num, by omega, by omega, by omega, by omega, by omega, HLZ2, r_e13, f_d13, f_o13, B13, cu13, bw13⟩
            case measure => (simp [intOf]; try omega)
          · go_wp2
            (try rw [HW11.out])
            go_roundw
            case rel => exact ⟨k2, L, a8, L8, c8, lo8, hi8, by go_num, by omega, hlo8, hlh8, by omega, by omega, HLZ, r_e11, f_d11, f_o11, B11, cu11, bw11⟩
            case measure => (simp [intOf]; try omega)
        · by_cases hk9 : kk = 0
          · subst hk9
            clear hgo
            go_wp2_with fail
            refine (once_any W0 W9 g vb xs 12 (by omega) (by omega) HSW.out hby hx bw9.out hg cu9.out).mono ?_
            rintro e W10 ⟨bb, rfl, d10⟩
            have z10 := d10.apart.size
            have B10 := Kd.D B9 d10
            have cu10 := Kd.e d10
            have bw10 := Kd.f d10
            have r_e10 : Hid (W10.heap[W6.heap.size]? = some (.cells #[.string n.path, .int .i64 n.a, .int .i64 n.b, .int .i64 n.c, .string ⟨#[]⟩, .slice a8 L8 c8] 34 (0, 0))) := drawnRow r_e9.out d10 (by omega)
            have f_o10 : Hid (Oet W10 w.heap.size hio (.slice ao T.length cap) T) := Oet.drawn f_o9.out d10 (by omega)
            have f_d10 : Hid (Odt W10 lo8 hi8 (.slice a8 L8 c8) L) := Odt.drawn f_d9.out d10 (by omega)
            have c_e10 := Ke.c r_e10
            clear r_e9 c_e9
            clear cu9 bw9 d10 f_o9 f_d9
            cases bb
            · have q9 := at15_spec W10 _ T ⟨n.path, n.a, n.b, n.c, ⟨#[]⟩⟩ f_o10.out.se (by omega)
              obtain ⟨ZZ, hZZ⟩ : ∃ ZZ, at15 ⟨n.path, n.a, n.b, n.c, ⟨#[]⟩⟩ (T.map Ev.n) 0 = ZZ := ⟨_, rfl⟩
              rw [hZZ] at q9
              have HZZ := Ke.h hZZ
              clear hZZ
              go_wp2_with fail
              refine (q9).mono ?_
              rintro e W11 ⟨rfl, b11⟩
              have z11 := b11.size
              have B11 := Kd.B B10 b11
              have r_e11 := Ke.r r_e10 b11
              have c_e11 := Ke.c r_e11
              clear r_e10 c_e10
              have f_o11 : Hid (Oet W11 w.heap.size hio (.slice ao T.length cap) T) := Oet.later f_o10.out b11
              have f_d11 : Hid (Odt W11 lo8 hi8 (.slice a8 L8 c8) L) := Odt.later f_d10.out b11
              clear f_o10 f_d10
              have cu11 := Kd.c cu10 b11
              have bw11 := Ke.b bw10 b11
              clear cu10 bw10
              clear q9
              by_cases hz9 : ZZ < 0
              · have k1 : T.length + 1 ≤ maxLen := by unfold maxLen; omega
                have k2 : (T.length + 1) * 80 ≤ 140737488355328 := by omega
                have oA : ∀ ob, On 6 (W11.alloc ob) w.heap.size (W11.alloc ob).heap.size 34 (.slice ao T.length cap) T.length (ecs T) := fun ob => On.mono (On.later f_o11.out.1 ((Below.refl _ _).alloc (Nat.le_refl _) ob) f_o11.out.2.2) (Nat.le_refl _) (by have := f_o11.out.2.2; simp; omega)
                have k3 : ∀ ob, w.heap.size ≤ (W11.alloc ob).heap.size := fun ob => by simp; omega
                go_wp2_with (at_builtin; go_must (refine wpl_appn 6 (by omega) _ rfl (.tmp 80) (.tmp 82) 24 rfl 34 i0 (.agg #[.string ⟨#[]⟩, .int .i64 0, .int .i64 0, .int .i64 0, .string ⟨#[]⟩, .slice none 0 0]) 80 Tryz.underlying24 hi hz0 hz1 hz2 rfl w.heap.size _ T.length (ecs T) rfl (oA _) _ rfl 1 (ec ⟨n.path, n.a, n.b, n.c, ⟨#[]⟩⟩ (.slice a8 L8 c8)).toList (Sn.one 6 W11 (ec ⟨n.path, n.a, n.b, n.c, ⟨#[]⟩⟩ (.slice a8 L8 c8)) 34 rfl) (by intro u9 hu9; simp only [ec, List.mem_cons, List.not_mem_nil, or_false] at hu9; rcases hu9 with rfl | rfl | rfl | rfl | rfl | rfl <;> rfl) k1 k2 (k3 _) ?_))
                intro v9 W12 o9 b9 g9
                have bA := (Below.refl W11.heap.size W11).alloc (Nat.le_refl _) (.cells (ec ⟨n.path, n.a, n.b, n.c, ⟨#[]⟩⟩ (.slice a8 L8 c8)) 34)
                have oS : Oet W12 w.heap.size W12.heap.size v9 (T ++ [⟨⟨n.path, n.a, n.b, n.c, ⟨#[]⟩⟩, .slice a8 L8 c8, L⟩]) := Oet.snoc (x := ⟨⟨n.path, n.a, n.b, n.c, ⟨#[]⟩⟩, .slice a8 L8 c8, L⟩) (f_o11.out.later bA) (f_d11.out.later bA) g9 o9 (by omega)
                obtain ⟨a7, c7, e7, hc7⟩ := oS.form
                subst e7
                have HOS := Ke.h oS
                have zA : W11.heap.size ≤ (W11.alloc (.cells (ec ⟨n.path, n.a, n.b, n.c, ⟨#[]⟩⟩ (.slice a8 L8 c8)) 34)).heap.size := bA.size
                have zAB : W11.heap.size ≤ W12.heap.size := Nat.le_trans bA.size g9.size
                have HBS : Hid (Apart g (g + 1) w W12) := Apart.gro5 (B11.out.grow bA) g9 (fun k9 h9 => by have := (On.lt f_o11.out.1 h9).1; omega)
                have HCS : Hid (Cur W12 (g) vb xs.length) := Cur.gro (cu11.out.keep bA) g9 (On.far9 f_o11.out.1 (by omega))
                have HWS : Hid (Below W0.heap.size W0 W12) := belowGro (bw11.out.trans (bA.mono bw11.out.size)) g9 (Nat.le_trans bw11.out.size zA) (fun k9 h9 => by have := (On.lt f_o11.out.1 h9).1; omega)
                clear oS o9 b9 g9 oA k3 bA
                have hl7 : (T ++ [(⟨⟨n.path, n.a, n.b, n.c, ⟨#[]⟩⟩, .slice a8 L8 c8, L⟩ : Ev)]).length = T.length + 1 := by simp
                have HL7 := Ke.h hl7
                have HDX7 : Hid (∀ x ∈ T ++ [(⟨⟨n.path, n.a, n.b, n.c, ⟨#[]⟩⟩, .slice a8 L8 c8, L⟩ : Ev)], Dx x) := by
                  intro x hx
                  rcases List.mem_append.1 hx with h9 | h9
                  · exact HDX.out x h9
                  · rw [List.mem_singleton.1 h9]; exact ⟨hnz, by show (L).length ≤ 3; omega, HLZ.out⟩
                clear hl7
                go_wp2
                go_roundw
                case rel => exact ⟨i2, T ++ [⟨⟨n.path, n.a, n.b, n.c, ⟨#[]⟩⟩, .slice a8 L8 c8, L⟩], a7, c7, W12.heap.size, rfl, by go_num, by rw [HL7.out]; omega, by rw [HL7.out]; omega, by omega, Nat.le_refl _, HDX7, HOS, HBS, HCS, HWS⟩
                case measure => (simp [intOf]; try omega)
              · have hT1 : 1 ≤ T.length := by
                  cases T with
                  | nil => exact absurd HZZ.out (by rw [List.map_nil, at15_nil]; omega)
                  | cons a b => simp
                go_wp2
                go_roundw
                case rel => exact ⟨i2, T, ao, cap, hio, rfl, by go_num, by omega, by omega, by omega, by omega, HDX, f_o11, B11, cu11, bw11⟩
                case measure => (simp [intOf]; try omega)
            · go_wp2_with fail
              refine (need_any W0 W10 g vb xs HSW.out hby hx bw10.out hg cu10.out).mono ?_
              rintro e W11 ⟨n2, rfl, hn20, d11⟩
              have z11 := d11.apart.size
              have B11 := Kd.D B10 d11
              have cu11 := Kd.e d11
              have bw11 := Kd.f d11
              have r_e11 : Hid (W11.heap[W6.heap.size]? = some (.cells #[.string n.path, .int .i64 n.a, .int .i64 n.b, .int .i64 n.c, .string ⟨#[]⟩, .slice a8 L8 c8] 34 (0, 0))) := drawnRow r_e10.out d11 (by omega)
              have f_o11 : Hid (Oet W11 w.heap.size hio (.slice ao T.length cap) T) := Oet.drawn f_o10.out d11 (by omega)
              have f_d11 : Hid (Odt W11 lo8 hi8 (.slice a8 L8 c8) L) := Odt.drawn f_d10.out d11 (by omega)
              have c_e11 := Ke.c r_e11
              clear r_e10 c_e10
              clear cu10 bw10 d11 f_o10 f_d10
              have hn2 := hn20.size
              have hn2z : Dz n2 := ⟨hn2.1, by omega⟩
              clear hn20
              have a_e11 := Ke.a r_e11
              obtain ⟨W12, HW12, b12, y12, hS12, r_x12⟩ := Ke.l1 W11 #[.string n2.path, .int .i64 n2.a, .int .i64 n2.b, .int .i64 n2.c, .string n2.pre] 38
              have z12 := b12.size
              have B12 := Kd.B B11 b12
              have r_e12 := Ke.r r_e11 b12
              have c_e12 := Ke.c r_e12
              have c_x12 := Ke.c r_x12
              clear r_e11 c_e11
              have f_o12 : Hid (Oet W12 w.heap.size hio (.slice ao T.length cap) T) := Oet.later f_o11.out b12
              have f_d12 : Hid (Odt W12 lo8 hi8 (.slice a8 L8 c8) L) := Odt.later f_d11.out b12
              clear f_o11 f_d11
              have cu12 := Kd.c cu11 b12
              have bw12 := Ke.b bw11 b12
              clear cu11 bw11
              obtain ⟨P, hP⟩ : ∃ P, (n2.path.toList == n.path.toList) = P := ⟨_, rfl⟩
              have hP2 : (n2.path.toList != n.path.toList) = (!P) := by rw [bne, hP]
              cases P <;> simp only [Bool.not_true, Bool.not_false] at hP2
              · go_wp2_with fail
                rw [HW12.out]
                clear a_e11
                refine (put_any W12 _ L n2 f_d12.out.1.sd (by omega)).mono ?_
                rintro e W13 ⟨v9, rfl, od9, b13⟩
                have z13 := b13.size
                have B13 := Kd.B B12 b13
                have r_e13 := Ke.r r_e12 b13
                have r_x13 := Ke.r r_x12 b13
                have c_e13 := Ke.c r_e13
                have c_x13 := Ke.c r_x13
                clear r_e12 c_e12 r_x12 c_x12
                have f_o13 : Hid (Oet W13 w.heap.size hio (.slice ao T.length cap) T) := Oet.later f_o12.out b13
                have f_d13 : Hid (Odt W13 lo8 hi8 (.slice a8 L8 c8) L) := Odt.later f_d12.out b13
                clear f_o12 f_d12
                have cu13 := Kd.c cu12 b13
                have bw13 := Ke.b bw12 b13
                clear cu12 bw12
                obtain ⟨a9, L9, c9, rfl⟩ : ∃ a9 L9 c9, v9 = .slice a9 L9 c9 := by obtain ⟨a9, c9, e9⟩ := Od.slice od9; exact ⟨a9, _, c9, e9⟩
                clear f_d13
                have f_d13 : Hid (Odt W13 W12.heap.size W13.heap.size (.slice a9 L9 c9) (insN L n2)) := ⟨od9, Nat.le_refl _⟩
                clear od9
                clear r_x13 c_x13
                have HLZ2 : Hid (∀ m ∈ insN L n2, Dz m) := Dz.ins HLZ.out hn2z
                have hLk2 := ins_grow L n2
                go_wp2_with (refine wpl_oneG rfl 25 _ _ rfl (W6.heap.size) 5 (.slice a9 L9 c9) rfl rfl [.string n.path, .int .i64 n.a, .int .i64 n.b, .int .i64 n.c, .string ⟨#[]⟩, .slice a8 L8 c8] 34 r_e13.out (Nat.le_of_ble_eq_true rfl) (by kernel_rfl) rfl [.string n.path, .int .i64 n.a, .int .i64 n.b, .int .i64 n.c, .string ⟨#[]⟩, .slice a9 L9 c9] rfl ?_)
                intro W14 r_e14 g14
                have f_o14 : Hid (Oet W14 w.heap.size hio (.slice ao T.length cap) T) := Oet.gro f_o13.out g14 (fun k9 h9 => by injection h9 with h9; omega)
                have f_d14 : Hid (Odt W14 W12.heap.size W13.heap.size (.slice a9 L9 c9) (insN L n2)) := Odt.gro f_d13.out g14 (fun k9 h9 => by injection h9 with h9; omega)
                have cu14 : Hid (Cur W14 (g) vb xs.length) := cu13.out.gro g14 (fun h9 => by injection h9 with h9; omega)
                have bw14 : Hid (Below W0.heap.size W0 W14) := belowGro bw13.out g14 bw13.out.size (fun k9 h9 => by injection h9 with h9; omega)
                clear cu13 bw13
                have r_e14 : Hid (W14.heap[W6.heap.size]? = some (.cells #[.string n.path, .int .i64 n.a, .int .i64 n.b, .int .i64 n.c, .string ⟨#[]⟩, .slice a9 L9 c9] 34 (0, 0))) := r_e14
                have z14 := g14.size
                have B14 : Hid (Apart g (g + 1) w W14) := Apart.gro5 B13.out g14 (fun k9 h9 => by injection h9 with h9; have := B13.out.size; omega)
                have c_e14 := Ke.c r_e14
                clear r_e13 c_e13
                clear f_o13
                clear f_d13
                clear g14
                have q9 := at15_spec W14 _ T ⟨n.path, n.a, n.b, n.c, ⟨#[]⟩⟩ f_o14.out.se (by omega)
                obtain ⟨ZZ, hZZ⟩ : ∃ ZZ, at15 ⟨n.path, n.a, n.b, n.c, ⟨#[]⟩⟩ (T.map Ev.n) 0 = ZZ := ⟨_, rfl⟩
                rw [hZZ] at q9
                have HZZ := Ke.h hZZ
                clear hZZ
                go_wp2_with fail
                refine (q9).mono ?_
                rintro e W15 ⟨rfl, b15⟩
                have z15 := b15.size
                have B15 := Kd.B B14 b15
                have r_e15 := Ke.r r_e14 b15
                have c_e15 := Ke.c r_e15
                clear r_e14 c_e14
                have f_o15 : Hid (Oet W15 w.heap.size hio (.slice ao T.length cap) T) := Oet.later f_o14.out b15
                have f_d15 : Hid (Odt W15 W12.heap.size W13.heap.size (.slice a9 L9 c9) (insN L n2)) := Odt.later f_d14.out b15
                clear f_o14 f_d14
                have cu15 := Kd.c cu14 b15
                have bw15 := Ke.b bw14 b15
                clear cu14 bw14
                clear q9
                by_cases hz9 : ZZ < 0
                · have k1 : T.length + 1 ≤ maxLen := by unfold maxLen; omega
                  have k2 : (T.length + 1) * 80 ≤ 140737488355328 := by omega
                  have oA : ∀ ob, On 6 (W15.alloc ob) w.heap.size (W15.alloc ob).heap.size 34 (.slice ao T.length cap) T.length (ecs T) := fun ob => On.mono (On.later f_o15.out.1 ((Below.refl _ _).alloc (Nat.le_refl _) ob) f_o15.out.2.2) (Nat.le_refl _) (by have := f_o15.out.2.2; simp; omega)
                  have k3 : ∀ ob, w.heap.size ≤ (W15.alloc ob).heap.size := fun ob => by simp; omega
                  go_wp2_with (at_builtin; go_must (refine wpl_appn 6 (by omega) _ rfl (.tmp 80) (.tmp 82) 24 rfl 34 i0 (.agg #[.string ⟨#[]⟩, .int .i64 0, .int .i64 0, .int .i64 0, .string ⟨#[]⟩, .slice none 0 0]) 80 Tryz.underlying24 hi hz0 hz1 hz2 rfl w.heap.size _ T.length (ecs T) rfl (oA _) _ rfl 1 (ec ⟨n.path, n.a, n.b, n.c, ⟨#[]⟩⟩ (.slice a9 L9 c9)).toList (Sn.one 6 W15 (ec ⟨n.path, n.a, n.b, n.c, ⟨#[]⟩⟩ (.slice a9 L9 c9)) 34 rfl) (by intro u9 hu9; simp only [ec, List.mem_cons, List.not_mem_nil, or_false] at hu9; rcases hu9 with rfl | rfl | rfl | rfl | rfl | rfl <;> rfl) k1 k2 (k3 _) ?_))
                  intro v9 W16 o9 b9 g9
                  have bA := (Below.refl W15.heap.size W15).alloc (Nat.le_refl _) (.cells (ec ⟨n.path, n.a, n.b, n.c, ⟨#[]⟩⟩ (.slice a9 L9 c9)) 34)
                  have oS : Oet W16 w.heap.size W16.heap.size v9 (T ++ [⟨⟨n.path, n.a, n.b, n.c, ⟨#[]⟩⟩, .slice a9 L9 c9, (insN L n2)⟩]) := Oet.snoc (x := ⟨⟨n.path, n.a, n.b, n.c, ⟨#[]⟩⟩, .slice a9 L9 c9, (insN L n2)⟩) (f_o15.out.later bA) (f_d15.out.later bA) g9 o9 (by omega)
                  obtain ⟨a7, c7, e7, hc7⟩ := oS.form
                  subst e7
                  have HOS := Ke.h oS
                  have zA : W15.heap.size ≤ (W15.alloc (.cells (ec ⟨n.path, n.a, n.b, n.c, ⟨#[]⟩⟩ (.slice a9 L9 c9)) 34)).heap.size := bA.size
                  have zAB : W15.heap.size ≤ W16.heap.size := Nat.le_trans bA.size g9.size
                  have HBS : Hid (Apart g (g + 1) w W16) := Apart.gro5 (B15.out.grow bA) g9 (fun k9 h9 => by have := (On.lt f_o15.out.1 h9).1; omega)
                  have HCS : Hid (Cur W16 (g) vb xs.length) := Cur.gro (cu15.out.keep bA) g9 (On.far9 f_o15.out.1 (by omega))
                  have HWS : Hid (Below W0.heap.size W0 W16) := belowGro (bw15.out.trans (bA.mono bw15.out.size)) g9 (Nat.le_trans bw15.out.size zA) (fun k9 h9 => by have := (On.lt f_o15.out.1 h9).1; omega)
                  clear oS o9 b9 g9 oA k3 bA
                  have hl7 : (T ++ [(⟨⟨n.path, n.a, n.b, n.c, ⟨#[]⟩⟩, .slice a9 L9 c9, (insN L n2)⟩ : Ev)]).length = T.length + 1 := by simp
                  have HL7 := Ke.h hl7
                  have HDX7 : Hid (∀ x ∈ T ++ [(⟨⟨n.path, n.a, n.b, n.c, ⟨#[]⟩⟩, .slice a9 L9 c9, (insN L n2)⟩ : Ev)], Dx x) := by
                    intro x hx
                    rcases List.mem_append.1 hx with h9 | h9
                    · exact HDX.out x h9
                    · rw [List.mem_singleton.1 h9]; exact ⟨hnz, by show ((insN L n2)).length ≤ 3; omega, HLZ2.out⟩
                  clear hl7
                  go_wp2
                  go_roundw
                  case rel => exact ⟨i2, T ++ [⟨⟨n.path, n.a, n.b, n.c, ⟨#[]⟩⟩, .slice a9 L9 c9, (insN L n2)⟩], a7, c7, W16.heap.size, rfl, by go_num, by rw [HL7.out]; omega, by rw [HL7.out]; omega, by omega, Nat.le_refl _, HDX7, HOS, HBS, HCS, HWS⟩
                  case measure => (simp [intOf]; try omega)
                · have hT1 : 1 ≤ T.length := by
                    cases T with
                    | nil => exact absurd HZZ.out (by rw [List.map_nil, at15_nil]; omega)
                    | cons a b => simp
                  go_wp2
                  go_roundw
                  case rel => exact ⟨i2, T, ao, cap, hio, rfl, by go_num, by omega, by omega, by omega, by omega, HDX, f_o15, B15, cu15, bw15⟩
                  case measure => (simp [intOf]; try omega)
              · clear r_x12 c_x12
                have q9 := at15_spec W12 _ T ⟨n.path, n.a, n.b, n.c, ⟨#[]⟩⟩ f_o12.out.se (by omega)
                obtain ⟨ZZ, hZZ⟩ : ∃ ZZ, at15 ⟨n.path, n.a, n.b, n.c, ⟨#[]⟩⟩ (T.map Ev.n) 0 = ZZ := ⟨_, rfl⟩
                rw [hZZ] at q9
                have HZZ := Ke.h hZZ
                clear hZZ
                go_wp2_with fail
                rw [HW12.out]
                clear a_e11
                refine (q9).mono ?_
                rintro e W13 ⟨rfl, b13⟩
                have z13 := b13.size
                have B13 := Kd.B B12 b13
                have r_e13 := Ke.r r_e12 b13
                have c_e13 := Ke.c r_e13
                clear r_e12 c_e12
                have f_o13 : Hid (Oet W13 w.heap.size hio (.slice ao T.length cap) T) := Oet.later f_o12.out b13
                have f_d13 : Hid (Odt W13 lo8 hi8 (.slice a8 L8 c8) L) := Odt.later f_d12.out b13
                clear f_o12 f_d12
                have cu13 := Kd.c cu12 b13
                have bw13 := Ke.b bw12 b13
                clear cu12 bw12
                clear q9
                by_cases hz9 : ZZ < 0
                · have k1 : T.length + 1 ≤ maxLen := by unfold maxLen; omega
                  have k2 : (T.length + 1) * 80 ≤ 140737488355328 := by omega
                  have oA : ∀ ob, On 6 (W13.alloc ob) w.heap.size (W13.alloc ob).heap.size 34 (.slice ao T.length cap) T.length (ecs T) := fun ob => On.mono (On.later f_o13.out.1 ((Below.refl _ _).alloc (Nat.le_refl _) ob) f_o13.out.2.2) (Nat.le_refl _) (by have := f_o13.out.2.2; simp; omega)
                  have k3 : ∀ ob, w.heap.size ≤ (W13.alloc ob).heap.size := fun ob => by simp; omega
                  go_wp2_with (at_builtin; go_must (refine wpl_appn 6 (by omega) _ rfl (.tmp 80) (.tmp 82) 24 rfl 34 i0 (.agg #[.string ⟨#[]⟩, .int .i64 0, .int .i64 0, .int .i64 0, .string ⟨#[]⟩, .slice none 0 0]) 80 Tryz.underlying24 hi hz0 hz1 hz2 rfl w.heap.size _ T.length (ecs T) rfl (oA _) _ rfl 1 (ec ⟨n.path, n.a, n.b, n.c, ⟨#[]⟩⟩ (.slice a8 L8 c8)).toList (Sn.one 6 W13 (ec ⟨n.path, n.a, n.b, n.c, ⟨#[]⟩⟩ (.slice a8 L8 c8)) 34 rfl) (by intro u9 hu9; simp only [ec, List.mem_cons, List.not_mem_nil, or_false] at hu9; rcases hu9 with rfl | rfl | rfl | rfl | rfl | rfl <;> rfl) k1 k2 (k3 _) ?_))
                  intro v9 W14 o9 b9 g9
                  have bA := (Below.refl W13.heap.size W13).alloc (Nat.le_refl _) (.cells (ec ⟨n.path, n.a, n.b, n.c, ⟨#[]⟩⟩ (.slice a8 L8 c8)) 34)
                  have oS : Oet W14 w.heap.size W14.heap.size v9 (T ++ [⟨⟨n.path, n.a, n.b, n.c, ⟨#[]⟩⟩, .slice a8 L8 c8, L⟩]) := Oet.snoc (x := ⟨⟨n.path, n.a, n.b, n.c, ⟨#[]⟩⟩, .slice a8 L8 c8, L⟩) (f_o13.out.later bA) (f_d13.out.later bA) g9 o9 (by omega)
                  obtain ⟨a7, c7, e7, hc7⟩ := oS.form
                  subst e7
                  have HOS := Ke.h oS
                  have zA : W13.heap.size ≤ (W13.alloc (.cells (ec ⟨n.path, n.a, n.b, n.c, ⟨#[]⟩⟩ (.slice a8 L8 c8)) 34)).heap.size := bA.size
                  have zAB : W13.heap.size ≤ W14.heap.size := Nat.le_trans bA.size g9.size
                  have HBS : Hid (Apart g (g + 1) w W14) := Apart.gro5 (B13.out.grow bA) g9 (fun k9 h9 => by have := (On.lt f_o13.out.1 h9).1; omega)
                  have HCS : Hid (Cur W14 (g) vb xs.length) := Cur.gro (cu13.out.keep bA) g9 (On.far9 f_o13.out.1 (by omega))
                  have HWS : Hid (Below W0.heap.size W0 W14) := belowGro (bw13.out.trans (bA.mono bw13.out.size)) g9 (Nat.le_trans bw13.out.size zA) (fun k9 h9 => by have := (On.lt f_o13.out.1 h9).1; omega)
                  clear oS o9 b9 g9 oA k3 bA
                  have hl7 : (T ++ [(⟨⟨n.path, n.a, n.b, n.c, ⟨#[]⟩⟩, .slice a8 L8 c8, L⟩ : Ev)]).length = T.length + 1 := by simp
                  have HL7 := Ke.h hl7
                  have HDX7 : Hid (∀ x ∈ T ++ [(⟨⟨n.path, n.a, n.b, n.c, ⟨#[]⟩⟩, .slice a8 L8 c8, L⟩ : Ev)], Dx x) := by
                    intro x hx
                    rcases List.mem_append.1 hx with h9 | h9
                    · exact HDX.out x h9
                    · rw [List.mem_singleton.1 h9]; exact ⟨hnz, by show (L).length ≤ 3; omega, HLZ.out⟩
                  clear hl7
                  go_wp2
                  go_roundw
                  case rel => exact ⟨i2, T ++ [⟨⟨n.path, n.a, n.b, n.c, ⟨#[]⟩⟩, .slice a8 L8 c8, L⟩], a7, c7, W14.heap.size, rfl, by go_num, by rw [HL7.out]; omega, by rw [HL7.out]; omega, by omega, Nat.le_refl _, HDX7, HOS, HBS, HCS, HWS⟩
                  case measure => (simp [intOf]; try omega)
                · have hT1 : 1 ≤ T.length := by
                    cases T with
                    | nil => exact absurd HZZ.out (by rw [List.map_nil, at15_nil]; omega)
                    | cons a b => simp
                  go_wp2
                  go_roundw
                  case rel => exact ⟨i2, T, ao, cap, hio, rfl, by go_num, by omega, by omega, by omega, by omega, HDX, f_o13, B13, cu13, bw13⟩
                  case measure => (simp [intOf]; try omega)
          · have c1 : (0 : Int) < (kk : Int) := by omega
            have c2 : ¬ (0 : Int) < (T.length : Int) := by omega
            clear hgo
            go_wp2_with fail
            refine (once_any W0 W9 g vb xs 12 (by omega) (by omega) HSW.out hby hx bw9.out hg cu9.out).mono ?_
            rintro e W10 ⟨bb, rfl, d10⟩
            have z10 := d10.apart.size
            have B10 := Kd.D B9 d10
            have cu10 := Kd.e d10
            have bw10 := Kd.f d10
            have r_e10 : Hid (W10.heap[W6.heap.size]? = some (.cells #[.string n.path, .int .i64 n.a, .int .i64 n.b, .int .i64 n.c, .string ⟨#[]⟩, .slice a8 L8 c8] 34 (0, 0))) := drawnRow r_e9.out d10 (by omega)
            have f_o10 : Hid (Oet W10 w.heap.size hio (.slice ao T.length cap) T) := Oet.drawn f_o9.out d10 (by omega)
            have f_d10 : Hid (Odt W10 lo8 hi8 (.slice a8 L8 c8) L) := Odt.drawn f_d9.out d10 (by omega)
            have c_e10 := Ke.c r_e10
            clear r_e9 c_e9
            clear cu9 bw9 d10 f_o9 f_d9
            cases bb
            · have q9 := at15_spec W10 _ T ⟨n.path, n.a, n.b, n.c, ⟨#[]⟩⟩ f_o10.out.se (by omega)
              obtain ⟨ZZ, hZZ⟩ : ∃ ZZ, at15 ⟨n.path, n.a, n.b, n.c, ⟨#[]⟩⟩ (T.map Ev.n) 0 = ZZ := ⟨_, rfl⟩
              rw [hZZ] at q9
              have HZZ := Ke.h hZZ
              clear hZZ
              go_wp2_with fail
              refine (q9).mono ?_
              rintro e W11 ⟨rfl, b11⟩
              have z11 := b11.size
              have B11 := Kd.B B10 b11
              have r_e11 := Ke.r r_e10 b11
              have c_e11 := Ke.c r_e11
              clear r_e10 c_e10
              have f_o11 : Hid (Oet W11 w.heap.size hio (.slice ao T.length cap) T) := Oet.later f_o10.out b11
              have f_d11 : Hid (Odt W11 lo8 hi8 (.slice a8 L8 c8) L) := Odt.later f_d10.out b11
              clear f_o10 f_d10
              have cu11 := Kd.c cu10 b11
              have bw11 := Ke.b bw10 b11
              clear cu10 bw10
              clear q9
              by_cases hz9 : ZZ < 0
              · have k1 : T.length + 1 ≤ maxLen := by unfold maxLen; omega
                have k2 : (T.length + 1) * 80 ≤ 140737488355328 := by omega
                have oA : ∀ ob, On 6 (W11.alloc ob) w.heap.size (W11.alloc ob).heap.size 34 (.slice ao T.length cap) T.length (ecs T) := fun ob => On.mono (On.later f_o11.out.1 ((Below.refl _ _).alloc (Nat.le_refl _) ob) f_o11.out.2.2) (Nat.le_refl _) (by have := f_o11.out.2.2; simp; omega)
                have k3 : ∀ ob, w.heap.size ≤ (W11.alloc ob).heap.size := fun ob => by simp; omega
                go_wp2_with (at_builtin; go_must (refine wpl_appn 6 (by omega) _ rfl (.tmp 80) (.tmp 82) 24 rfl 34 i0 (.agg #[.string ⟨#[]⟩, .int .i64 0, .int .i64 0, .int .i64 0, .string ⟨#[]⟩, .slice none 0 0]) 80 Tryz.underlying24 hi hz0 hz1 hz2 rfl w.heap.size _ T.length (ecs T) rfl (oA _) _ rfl 1 (ec ⟨n.path, n.a, n.b, n.c, ⟨#[]⟩⟩ (.slice a8 L8 c8)).toList (Sn.one 6 W11 (ec ⟨n.path, n.a, n.b, n.c, ⟨#[]⟩⟩ (.slice a8 L8 c8)) 34 rfl) (by intro u9 hu9; simp only [ec, List.mem_cons, List.not_mem_nil, or_false] at hu9; rcases hu9 with rfl | rfl | rfl | rfl | rfl | rfl <;> rfl) k1 k2 (k3 _) ?_))
                intro v9 W12 o9 b9 g9
                have bA := (Below.refl W11.heap.size W11).alloc (Nat.le_refl _) (.cells (ec ⟨n.path, n.a, n.b, n.c, ⟨#[]⟩⟩ (.slice a8 L8 c8)) 34)
                have oS : Oet W12 w.heap.size W12.heap.size v9 (T ++ [⟨⟨n.path, n.a, n.b, n.c, ⟨#[]⟩⟩, .slice a8 L8 c8, L⟩]) := Oet.snoc (x := ⟨⟨n.path, n.a, n.b, n.c, ⟨#[]⟩⟩, .slice a8 L8 c8, L⟩) (f_o11.out.later bA) (f_d11.out.later bA) g9 o9 (by omega)
                obtain ⟨a7, c7, e7, hc7⟩ := oS.form
                subst e7
                have HOS := Ke.h oS
                have zA : W11.heap.size ≤ (W11.alloc (.cells (ec ⟨n.path, n.a, n.b, n.c, ⟨#[]⟩⟩ (.slice a8 L8 c8)) 34)).heap.size := bA.size
                have zAB : W11.heap.size ≤ W12.heap.size := Nat.le_trans bA.size g9.size
                have HBS : Hid (Apart g (g + 1) w W12) := Apart.gro5 (B11.out.grow bA) g9 (fun k9 h9 => by have := (On.lt f_o11.out.1 h9).1; omega)
                have HCS : Hid (Cur W12 (g) vb xs.length) := Cur.gro (cu11.out.keep bA) g9 (On.far9 f_o11.out.1 (by omega))
                have HWS : Hid (Below W0.heap.size W0 W12) := belowGro (bw11.out.trans (bA.mono bw11.out.size)) g9 (Nat.le_trans bw11.out.size zA) (fun k9 h9 => by have := (On.lt f_o11.out.1 h9).1; omega)
                clear oS o9 b9 g9 oA k3 bA
                have hl7 : (T ++ [(⟨⟨n.path, n.a, n.b, n.c, ⟨#[]⟩⟩, .slice a8 L8 c8, L⟩ : Ev)]).length = T.length + 1 := by simp
                have HL7 := Ke.h hl7
                have HDX7 : Hid (∀ x ∈ T ++ [(⟨⟨n.path, n.a, n.b, n.c, ⟨#[]⟩⟩, .slice a8 L8 c8, L⟩ : Ev)], Dx x) := by
                  intro x hx
                  rcases List.mem_append.1 hx with h9 | h9
                  · exact HDX.out x h9
                  · rw [List.mem_singleton.1 h9]; exact ⟨hnz, by show (L).length ≤ 3; omega, HLZ.out⟩
                clear hl7
                go_wp2
                go_roundw
                case rel => exact ⟨i2, T ++ [⟨⟨n.path, n.a, n.b, n.c, ⟨#[]⟩⟩, .slice a8 L8 c8, L⟩], a7, c7, W12.heap.size, rfl, by go_num, by rw [HL7.out]; omega, by rw [HL7.out]; omega, by omega, Nat.le_refl _, HDX7, HOS, HBS, HCS, HWS⟩
                case measure => (simp [intOf]; try omega)
              · have hT1 : 1 ≤ T.length := by
                  cases T with
                  | nil => exact absurd HZZ.out (by rw [List.map_nil, at15_nil]; omega)
                  | cons a b => simp
                exfalso
                omega
            · go_wp2_with fail
              refine (need_any W0 W10 g vb xs HSW.out hby hx bw10.out hg cu10.out).mono ?_
              rintro e W11 ⟨n2, rfl, hn20, d11⟩
              have z11 := d11.apart.size
              have B11 := Kd.D B10 d11
              have cu11 := Kd.e d11
              have bw11 := Kd.f d11
              have r_e11 : Hid (W11.heap[W6.heap.size]? = some (.cells #[.string n.path, .int .i64 n.a, .int .i64 n.b, .int .i64 n.c, .string ⟨#[]⟩, .slice a8 L8 c8] 34 (0, 0))) := drawnRow r_e10.out d11 (by omega)
              have f_o11 : Hid (Oet W11 w.heap.size hio (.slice ao T.length cap) T) := Oet.drawn f_o10.out d11 (by omega)
              have f_d11 : Hid (Odt W11 lo8 hi8 (.slice a8 L8 c8) L) := Odt.drawn f_d10.out d11 (by omega)
              have c_e11 := Ke.c r_e11
              clear r_e10 c_e10
              clear cu10 bw10 d11 f_o10 f_d10
              have hn2 := hn20.size
              have hn2z : Dz n2 := ⟨hn2.1, by omega⟩
              clear hn20
              have a_e11 := Ke.a r_e11
              obtain ⟨W12, HW12, b12, y12, hS12, r_x12⟩ := Ke.l1 W11 #[.string n2.path, .int .i64 n2.a, .int .i64 n2.b, .int .i64 n2.c, .string n2.pre] 38
              have z12 := b12.size
              have B12 := Kd.B B11 b12
              have r_e12 := Ke.r r_e11 b12
              have c_e12 := Ke.c r_e12
              have c_x12 := Ke.c r_x12
              clear r_e11 c_e11
              have f_o12 : Hid (Oet W12 w.heap.size hio (.slice ao T.length cap) T) := Oet.later f_o11.out b12
              have f_d12 : Hid (Odt W12 lo8 hi8 (.slice a8 L8 c8) L) := Odt.later f_d11.out b12
              clear f_o11 f_d11
              have cu12 := Kd.c cu11 b12
              have bw12 := Ke.b bw11 b12
              clear cu11 bw11
              obtain ⟨P, hP⟩ : ∃ P, (n2.path.toList == n.path.toList) = P := ⟨_, rfl⟩
              have hP2 : (n2.path.toList != n.path.toList) = (!P) := by rw [bne, hP]
              cases P <;> simp only [Bool.not_true, Bool.not_false] at hP2
              · go_wp2_with fail
                rw [HW12.out]
                clear a_e11
                refine (put_any W12 _ L n2 f_d12.out.1.sd (by omega)).mono ?_
                rintro e W13 ⟨v9, rfl, od9, b13⟩
                have z13 := b13.size
                have B13 := Kd.B B12 b13
                have r_e13 := Ke.r r_e12 b13
                have r_x13 := Ke.r r_x12 b13
                have c_e13 := Ke.c r_e13
                have c_x13 := Ke.c r_x13
                clear r_e12 c_e12 r_x12 c_x12
                have f_o13 : Hid (Oet W13 w.heap.size hio (.slice ao T.length cap) T) := Oet.later f_o12.out b13
                have f_d13 : Hid (Odt W13 lo8 hi8 (.slice a8 L8 c8) L) := Odt.later f_d12.out b13
                clear f_o12 f_d12
                have cu13 := Kd.c cu12 b13
                have bw13 := Ke.b bw12 b13
                clear cu12 bw12
                obtain ⟨a9, L9, c9, rfl⟩ : ∃ a9 L9 c9, v9 = .slice a9 L9 c9 := by obtain ⟨a9, c9, e9⟩ := Od.slice od9; exact ⟨a9, _, c9, e9⟩
                clear f_d13
                have f_d13 : Hid (Odt W13 W12.heap.size W13.heap.size (.slice a9 L9 c9) (insN L n2)) := ⟨od9, Nat.le_refl _⟩
                clear od9
                clear r_x13 c_x13
                have HLZ2 : Hid (∀ m ∈ insN L n2, Dz m) := Dz.ins HLZ.out hn2z
                have hLk2 := ins_grow L n2
                go_wp2_with (refine wpl_oneG rfl 25 _ _ rfl (W6.heap.size) 5 (.slice a9 L9 c9) rfl rfl [.string n.path, .int .i64 n.a, .int .i64 n.b, .int .i64 n.c, .string ⟨#[]⟩, .slice a8 L8 c8] 34 r_e13.out (Nat.le_of_ble_eq_true rfl) (by kernel_rfl) rfl [.string n.path, .int .i64 n.a, .int .i64 n.b, .int .i64 n.c, .string ⟨#[]⟩, .slice a9 L9 c9] rfl ?_)
                intro W14 r_e14 g14
                have f_o14 : Hid (Oet W14 w.heap.size hio (.slice ao T.length cap) T) := Oet.gro f_o13.out g14 (fun k9 h9 => by injection h9 with h9; omega)
                have f_d14 : Hid (Odt W14 W12.heap.size W13.heap.size (.slice a9 L9 c9) (insN L n2)) := Odt.gro f_d13.out g14 (fun k9 h9 => by injection h9 with h9; omega)
                have cu14 : Hid (Cur W14 (g) vb xs.length) := cu13.out.gro g14 (fun h9 => by injection h9 with h9; omega)
                have bw14 : Hid (Below W0.heap.size W0 W14) := belowGro bw13.out g14 bw13.out.size (fun k9 h9 => by injection h9 with h9; omega)
                clear cu13 bw13
                have r_e14 : Hid (W14.heap[W6.heap.size]? = some (.cells #[.string n.path, .int .i64 n.a, .int .i64 n.b, .int .i64 n.c, .string ⟨#[]⟩, .slice a9 L9 c9] 34 (0, 0))) := r_e14
                have z14 := g14.size
                have B14 : Hid (Apart g (g + 1) w W14) := Apart.gro5 B13.out g14 (fun k9 h9 => by injection h9 with h9; have := B13.out.size; omega)
                have c_e14 := Ke.c r_e14
                clear r_e13 c_e13
                clear f_o13
                clear f_d13
                clear g14
                have q9 := at15_spec W14 _ T ⟨n.path, n.a, n.b, n.c, ⟨#[]⟩⟩ f_o14.out.se (by omega)
                obtain ⟨ZZ, hZZ⟩ : ∃ ZZ, at15 ⟨n.path, n.a, n.b, n.c, ⟨#[]⟩⟩ (T.map Ev.n) 0 = ZZ := ⟨_, rfl⟩
                rw [hZZ] at q9
                have HZZ := Ke.h hZZ
                clear hZZ
                go_wp2_with fail
                refine (q9).mono ?_
                rintro e W15 ⟨rfl, b15⟩
                have z15 := b15.size
                have B15 := Kd.B B14 b15
                have r_e15 := Ke.r r_e14 b15
                have c_e15 := Ke.c r_e15
                clear r_e14 c_e14
                have f_o15 : Hid (Oet W15 w.heap.size hio (.slice ao T.length cap) T) := Oet.later f_o14.out b15
                have f_d15 : Hid (Odt W15 W12.heap.size W13.heap.size (.slice a9 L9 c9) (insN L n2)) := Odt.later f_d14.out b15
                clear f_o14 f_d14
                have cu15 := Kd.c cu14 b15
                have bw15 := Ke.b bw14 b15
                clear cu14 bw14
                clear q9
                by_cases hz9 : ZZ < 0
                · have k1 : T.length + 1 ≤ maxLen := by unfold maxLen; omega
                  have k2 : (T.length + 1) * 80 ≤ 140737488355328 := by omega
                  have oA : ∀ ob, On 6 (W15.alloc ob) w.heap.size (W15.alloc ob).heap.size 34 (.slice ao T.length cap) T.length (ecs T) := fun ob => On.mono (On.later f_o15.out.1 ((Below.refl _ _).alloc (Nat.le_refl _) ob) f_o15.out.2.2) (Nat.le_refl _) (by have := f_o15.out.2.2; simp; omega)
                  have k3 : ∀ ob, w.heap.size ≤ (W15.alloc ob).heap.size := fun ob => by simp; omega
                  go_wp2_with (at_builtin; go_must (refine wpl_appn 6 (by omega) _ rfl (.tmp 80) (.tmp 82) 24 rfl 34 i0 (.agg #[.string ⟨#[]⟩, .int .i64 0, .int .i64 0, .int .i64 0, .string ⟨#[]⟩, .slice none 0 0]) 80 Tryz.underlying24 hi hz0 hz1 hz2 rfl w.heap.size _ T.length (ecs T) rfl (oA _) _ rfl 1 (ec ⟨n.path, n.a, n.b, n.c, ⟨#[]⟩⟩ (.slice a9 L9 c9)).toList (Sn.one 6 W15 (ec ⟨n.path, n.a, n.b, n.c, ⟨#[]⟩⟩ (.slice a9 L9 c9)) 34 rfl) (by intro u9 hu9; simp only [ec, List.mem_cons, List.not_mem_nil, or_false] at hu9; rcases hu9 with rfl | rfl | rfl | rfl | rfl | rfl <;> rfl) k1 k2 (k3 _) ?_))
                  intro v9 W16 o9 b9 g9
                  have bA := (Below.refl W15.heap.size W15).alloc (Nat.le_refl _) (.cells (ec ⟨n.path, n.a, n.b, n.c, ⟨#[]⟩⟩ (.slice a9 L9 c9)) 34)
                  have oS : Oet W16 w.heap.size W16.heap.size v9 (T ++ [⟨⟨n.path, n.a, n.b, n.c, ⟨#[]⟩⟩, .slice a9 L9 c9, (insN L n2)⟩]) := Oet.snoc (x := ⟨⟨n.path, n.a, n.b, n.c, ⟨#[]⟩⟩, .slice a9 L9 c9, (insN L n2)⟩) (f_o15.out.later bA) (f_d15.out.later bA) g9 o9 (by omega)
                  obtain ⟨a7, c7, e7, hc7⟩ := oS.form
                  subst e7
                  have HOS := Ke.h oS
                  have zA : W15.heap.size ≤ (W15.alloc (.cells (ec ⟨n.path, n.a, n.b, n.c, ⟨#[]⟩⟩ (.slice a9 L9 c9)) 34)).heap.size := bA.size
                  have zAB : W15.heap.size ≤ W16.heap.size := Nat.le_trans bA.size g9.size
                  have HBS : Hid (Apart g (g + 1) w W16) := Apart.gro5 (B15.out.grow bA) g9 (fun k9 h9 => by have := (On.lt f_o15.out.1 h9).1; omega)
                  have HCS : Hid (Cur W16 (g) vb xs.length) := Cur.gro (cu15.out.keep bA) g9 (On.far9 f_o15.out.1 (by omega))
                  have HWS : Hid (Below W0.heap.size W0 W16) := belowGro (bw15.out.trans (bA.mono bw15.out.size)) g9 (Nat.le_trans bw15.out.size zA) (fun k9 h9 => by have := (On.lt f_o15.out.1 h9).1; omega)
                  clear oS o9 b9 g9 oA k3 bA
                  have hl7 : (T ++ [(⟨⟨n.path, n.a, n.b, n.c, ⟨#[]⟩⟩, .slice a9 L9 c9, (insN L n2)⟩ : Ev)]).length = T.length + 1 := by simp
                  have HL7 := Ke.h hl7
                  have HDX7 : Hid (∀ x ∈ T ++ [(⟨⟨n.path, n.a, n.b, n.c, ⟨#[]⟩⟩, .slice a9 L9 c9, (insN L n2)⟩ : Ev)], Dx x) := by
                    intro x hx
                    rcases List.mem_append.1 hx with h9 | h9
                    · exact HDX.out x h9
                    · rw [List.mem_singleton.1 h9]; exact ⟨hnz, by show ((insN L n2)).length ≤ 3; omega, HLZ2.out⟩
                  clear hl7
                  go_wp2
                  go_roundw
                  case rel => exact ⟨i2, T ++ [⟨⟨n.path, n.a, n.b, n.c, ⟨#[]⟩⟩, .slice a9 L9 c9, (insN L n2)⟩], a7, c7, W16.heap.size, rfl, by go_num, by rw [HL7.out]; omega, by rw [HL7.out]; omega, by omega, Nat.le_refl _, HDX7, HOS, HBS, HCS, HWS⟩
                  case measure => (simp [intOf]; try omega)
                · have hT1 : 1 ≤ T.length := by
                    cases T with
                    | nil => exact absurd HZZ.out (by rw [List.map_nil, at15_nil]; omega)
                    | cons a b => simp
                  exfalso
                  omega
              · clear r_x12 c_x12
                have q9 := at15_spec W12 _ T ⟨n.path, n.a, n.b, n.c, ⟨#[]⟩⟩ f_o12.out.se (by omega)
                obtain ⟨ZZ, hZZ⟩ : ∃ ZZ, at15 ⟨n.path, n.a, n.b, n.c, ⟨#[]⟩⟩ (T.map Ev.n) 0 = ZZ := ⟨_, rfl⟩
                rw [hZZ] at q9
                have HZZ := Ke.h hZZ
                clear hZZ
                go_wp2_with fail
                rw [HW12.out]
                clear a_e11
                refine (q9).mono ?_
                rintro e W13 ⟨rfl, b13⟩
                have z13 := b13.size
                have B13 := Kd.B B12 b13
                have r_e13 := Ke.r r_e12 b13
                have c_e13 := Ke.c r_e13
                clear r_e12 c_e12
                have f_o13 : Hid (Oet W13 w.heap.size hio (.slice ao T.length cap) T) := Oet.later f_o12.out b13
                have f_d13 : Hid (Odt W13 lo8 hi8 (.slice a8 L8 c8) L) := Odt.later f_d12.out b13
                clear f_o12 f_d12
                have cu13 := Kd.c cu12 b13
                have bw13 := Ke.b bw12 b13
                clear cu12 bw12
                clear q9
                by_cases hz9 : ZZ < 0
                · have k1 : T.length + 1 ≤ maxLen := by unfold maxLen; omega
                  have k2 : (T.length + 1) * 80 ≤ 140737488355328 := by omega
                  have oA : ∀ ob, On 6 (W13.alloc ob) w.heap.size (W13.alloc ob).heap.size 34 (.slice ao T.length cap) T.length (ecs T) := fun ob => On.mono (On.later f_o13.out.1 ((Below.refl _ _).alloc (Nat.le_refl _) ob) f_o13.out.2.2) (Nat.le_refl _) (by have := f_o13.out.2.2; simp; omega)
                  have k3 : ∀ ob, w.heap.size ≤ (W13.alloc ob).heap.size := fun ob => by simp; omega
                  go_wp2_with (at_builtin; go_must (refine wpl_appn 6 (by omega) _ rfl (.tmp 80) (.tmp 82) 24 rfl 34 i0 (.agg #[.string ⟨#[]⟩, .int .i64 0, .int .i64 0, .int .i64 0, .string ⟨#[]⟩, .slice none 0 0]) 80 Tryz.underlying24 hi hz0 hz1 hz2 rfl w.heap.size _ T.length (ecs T) rfl (oA _) _ rfl 1 (ec ⟨n.path, n.a, n.b, n.c, ⟨#[]⟩⟩ (.slice a8 L8 c8)).toList (Sn.one 6 W13 (ec ⟨n.path, n.a, n.b, n.c, ⟨#[]⟩⟩ (.slice a8 L8 c8)) 34 rfl) (by intro u9 hu9; simp only [ec, List.mem_cons, List.not_mem_nil, or_false] at hu9; rcases hu9 with rfl | rfl | rfl | rfl | rfl | rfl <;> rfl) k1 k2 (k3 _) ?_))
                  intro v9 W14 o9 b9 g9
                  have bA := (Below.refl W13.heap.size W13).alloc (Nat.le_refl _) (.cells (ec ⟨n.path, n.a, n.b, n.c, ⟨#[]⟩⟩ (.slice a8 L8 c8)) 34)
                  have oS : Oet W14 w.heap.size W14.heap.size v9 (T ++ [⟨⟨n.path, n.a, n.b, n.c, ⟨#[]⟩⟩, .slice a8 L8 c8, L⟩]) := Oet.snoc (x := ⟨⟨n.path, n.a, n.b, n.c, ⟨#[]⟩⟩, .slice a8 L8 c8, L⟩) (f_o13.out.later bA) (f_d13.out.later bA) g9 o9 (by omega)
                  obtain ⟨a7, c7, e7, hc7⟩ := oS.form
                  subst e7
                  have HOS := Ke.h oS
                  have zA : W13.heap.size ≤ (W13.alloc (.cells (ec ⟨n.path, n.a, n.b, n.c, ⟨#[]⟩⟩ (.slice a8 L8 c8)) 34)).heap.size := bA.size
                  have zAB : W13.heap.size ≤ W14.heap.size := Nat.le_trans bA.size g9.size
                  have HBS : Hid (Apart g (g + 1) w W14) := Apart.gro5 (B13.out.grow bA) g9 (fun k9 h9 => by have := (On.lt f_o13.out.1 h9).1; omega)
                  have HCS : Hid (Cur W14 (g) vb xs.length) := Cur.gro (cu13.out.keep bA) g9 (On.far9 f_o13.out.1 (by omega))
                  have HWS : Hid (Below W0.heap.size W0 W14) := belowGro (bw13.out.trans (bA.mono bw13.out.size)) g9 (Nat.le_trans bw13.out.size zA) (fun k9 h9 => by have := (On.lt f_o13.out.1 h9).1; omega)
                  clear oS o9 b9 g9 oA k3 bA
                  have hl7 : (T ++ [(⟨⟨n.path, n.a, n.b, n.c, ⟨#[]⟩⟩, .slice a8 L8 c8, L⟩ : Ev)]).length = T.length + 1 := by simp
                  have HL7 := Ke.h hl7
                  have HDX7 : Hid (∀ x ∈ T ++ [(⟨⟨n.path, n.a, n.b, n.c, ⟨#[]⟩⟩, .slice a8 L8 c8, L⟩ : Ev)], Dx x) := by
                    intro x hx
                    rcases List.mem_append.1 hx with h9 | h9
                    · exact HDX.out x h9
                    · rw [List.mem_singleton.1 h9]; exact ⟨hnz, by show (L).length ≤ 3; omega, HLZ.out⟩
                  clear hl7
                  go_wp2
                  go_roundw
                  case rel => exact ⟨i2, T ++ [⟨⟨n.path, n.a, n.b, n.c, ⟨#[]⟩⟩, .slice a8 L8 c8, L⟩], a7, c7, W14.heap.size, rfl, by go_num, by rw [HL7.out]; omega, by rw [HL7.out]; omega, by omega, Nat.le_refl _, HDX7, HOS, HBS, HCS, HWS⟩
                  case measure => (simp [intOf]; try omega)
                · have hT1 : 1 ≤ T.length := by
                    cases T with
                    | nil => exact absurd HZZ.out (by rw [List.map_nil, at15_nil]; omega)
                    | cons a b => simp
                  exfalso
                  omega

end Go.Proofs.YtlhmemnaiobgkaaGreatDoor.Fe
