/- A goal that is found by the first way that comes to it. -/
import Derived.Test.YtljiokkdaelmpaaGreatDoorMAny9
namespace Go.Proofs.YtljiokkdaelmpaaGreatDoor

theorem later0 {G R : Prop} (h : G → R) (p : G) : R := h p
theorem later1 {α0 : Type} (P : α0 → Prop) {G : α0 → Prop} {R : Prop} (h : (∀ x0, P x0 → G x0) → R) (p : ∀ x0, P x0 → G x0) : R := h p
theorem later2 {α0 α1 : Type} (P : α0 → α1 → Prop) {G : α0 → α1 → Prop} {R : Prop} (h : (∀ x0 x1, P x0 x1 → G x0 x1) → R) (p : ∀ x0 x1, P x0 x1 → G x0 x1) : R := h p
theorem later3 {α0 α1 α2 : Type} (P : α0 → α1 → α2 → Prop) {G : α0 → α1 → α2 → Prop} {R : Prop} (h : (∀ x0 x1 x2, P x0 x1 x2 → G x0 x1 x2) → R) (p : ∀ x0 x1 x2, P x0 x1 x2 → G x0 x1 x2) : R := h p
theorem later4 {α0 α1 α2 α3 : Type} (P : α0 → α1 → α2 → α3 → Prop) {G : α0 → α1 → α2 → α3 → Prop} {R : Prop} (h : (∀ x0 x1 x2 x3, P x0 x1 x2 x3 → G x0 x1 x2 x3) → R) (p : ∀ x0 x1 x2 x3, P x0 x1 x2 x3 → G x0 x1 x2 x3) : R := h p
theorem later5 {α0 α1 α2 α3 α4 : Type} (P : α0 → α1 → α2 → α3 → α4 → Prop) {G : α0 → α1 → α2 → α3 → α4 → Prop} {R : Prop} (h : (∀ x0 x1 x2 x3 x4, P x0 x1 x2 x3 x4 → G x0 x1 x2 x3 x4) → R) (p : ∀ x0 x1 x2 x3 x4, P x0 x1 x2 x3 x4 → G x0 x1 x2 x3 x4) : R := h p
theorem later7 {α0 α1 α2 α3 α4 α5 α6 : Type} (P : α0 → α1 → α2 → α3 → α4 → α5 → α6 → Prop) {G : α0 → α1 → α2 → α3 → α4 → α5 → α6 → Prop} {R : Prop} (h : (∀ x0 x1 x2 x3 x4 x5 x6, P x0 x1 x2 x3 x4 x5 x6 → G x0 x1 x2 x3 x4 x5 x6) → R) (p : ∀ x0 x1 x2 x3 x4 x5 x6, P x0 x1 x2 x3 x4 x5 x6 → G x0 x1 x2 x3 x4 x5 x6) : R := h p
theorem later9 {α0 α1 α2 α3 α4 α5 α6 α7 α8 : Type} (P : α0 → α1 → α2 → α3 → α4 → α5 → α6 → α7 → α8 → Prop) {G : α0 → α1 → α2 → α3 → α4 → α5 → α6 → α7 → α8 → Prop} {R : Prop} (h : (∀ x0 x1 x2 x3 x4 x5 x6 x7 x8, P x0 x1 x2 x3 x4 x5 x6 x7 x8 → G x0 x1 x2 x3 x4 x5 x6 x7 x8) → R) (p : ∀ x0 x1 x2 x3 x4 x5 x6 x7 x8, P x0 x1 x2 x3 x4 x5 x6 x7 x8 → G x0 x1 x2 x3 x4 x5 x6 x7 x8) : R := h p
theorem laterI2 {α0 α1 : Type} {P : α0 → α1 → Prop} {G : α0 → α1 → Prop} {R : Prop} (h : (∀ x0 x1, P x0 x1 → G x0 x1) → R) (p : ∀ x0 x1, P x0 x1 → G x0 x1) : R := h p
theorem laterI4 {α0 α1 α2 α3 : Type} {P : α0 → α1 → α2 → α3 → Prop} {G : α0 → α1 → α2 → α3 → Prop} {R : Prop} (h : (∀ x0 x1 x2 x3, P x0 x1 x2 x3 → G x0 x1 x2 x3) → R) (p : ∀ x0 x1 x2 x3, P x0 x1 x2 x3 → G x0 x1 x2 x3) : R := h p
theorem laterI3 {α0 α1 α2 : Type} {P : α0 → α1 → α2 → Prop} {G : α0 → α1 → α2 → Prop} {R : Prop} (h : (∀ x0 x1 x2, P x0 x1 x2 → G x0 x1 x2) → R) (p : ∀ x0 x1 x2, P x0 x1 x2 → G x0 x1 x2) : R := h p
end Go.Proofs.YtljiokkdaelmpaaGreatDoor
